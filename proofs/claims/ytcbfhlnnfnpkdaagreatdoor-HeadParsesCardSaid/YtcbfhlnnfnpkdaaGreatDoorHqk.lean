/- Lines of fields (layer 9), the document's All, with few imports (bin/mkhqk.py, out of Fud, Fue, Fuf). -/
import Derived.Test.YtcbfhlnnfnpkdaaGreatDoorFuc
import Derived.Test.YtcbfhlnnfnpkdaaGreatDoorKeeps
import Derived.Test.YtcbfhlnnfnpkdaaGreatDoorHdi
import Derived.Test.YtcbfhlnnfnpkdaaGreatDoorOpb
namespace Go.Proofs.YtcbfhlnnfnpkdaaGreatDoor
open Go.RowKit
set_option linter.unusedVariables false
set_option linter.unusedSimpArgs false

theorem svH_map (l : List ByteArray) : svH l = l.map Value.string := by
  unfold svH strC
  induction l with
  | nil => rfl
  | cons x r ih => rw [List.flatMap_cons, ih]; rfl
theorem svH_one (l : List ByteArray) : ∀ u ∈ svH l, u.oneCell' = true := by
  rw [svH_map]
  intro u hu
  rw [List.mem_map] at hu
  obtain ⟨s, _, rfl⟩ := hu
  rfl
theorem op_app_strs {P : Program} {ops : Array Oper} {wr : World} {o : Oper} {a : Act} {K : Act → World → Prop} {Q : Exit → Act → World → Prop} (hgd : o.guard = none) (s x : Operand) (t e : TypeId)
    (ho : o.op = .call { callee := .builtin .append, args := #[s, x], argTypes := #[t, t] }) (ht : P.underlying t = some (.slice e)) (z : Value)
    (hi : (P.info? e).map (fun i => (i.zero, i.size, i.bytes)) = some (some z, 1, 16)) (hz : z.cells.size = 1) (B : Nat) (v : Value) (n : Nat) (xs : List Value) (hs : a.eval s = v) (hown : wr.ownsRow B e 1 v n xs)
    (g off c : Nat) (l : List ByteArray) (hx : a.eval x = .slice (some ⟨g, off, none⟩) l.length c) (hc : ∀ (j : Nat) (h : j < l.length), wr.cell? ⟨g, off + j, none⟩ = some (.string l[j])) (hlen : (n + l.length) * 16 ≤ 140737488355328) (hm : n + l.length ≤ maxLen) (hB : B ≤ wr.heap.size)
    (h : ∀ a' c' w', w'.ownsRow B e 1 (.slice a' (n + l.length) c') (n + l.length) (xs ++ svH l) → wr.grownBy w' v.ownBlock → K (a.put o.dst (.slice a' (n + l.length) c')) w') :
    if Region.wanted o (yielded ops a.tmps) = true then Oper.wp P o a wr K Q else K (a.put o.dst undef) wr := by
  obtain ⟨i0, hi, hz0, hz1, hz2⟩ := info_parts hi
  refine oq_app_own hgd s x t ho B e i0 z 1 16 ht hi hz0 hz1 hz2 hz (by omega) v n xs hs hown ⟨g, off, none⟩ l.length c (svH l) hx (by rw [svH_map, List.length_map]; omega) ?_ (svH_one l) hm hlen hB fun v' w' g1 g2 _ => ?_
  · intro j u hj
    rw [svH_map, List.getElem?_map] at hj
    rw [Addr.add_lit]
    by_cases hjl : j < l.length
    · rw [List.getElem?_eq_getElem hjl] at hj
      cases hj
      exact hc j hjl
    · rw [List.getElem?_eq_none (by omega)] at hj
      cases hj
  · obtain ⟨a', c', rfl⟩ := own_lenH g1
    exact h a' c' w' g1 g2
theorem rgoes_any (s : ByteArray) (w : World) (hs : s.size ≤ 1000000) : Calls Tryz.prog 113 #[.string s] w fun e w' => e = .returned (.bool (goesB s)) ∧ w = w' := by
  by_cases h0 : s.size = 0
  · have hg : goesB s = false := by unfold goesB; rw [decide_eq_false (by omega)]; rfl
    rw [hg]
    have q0 : ¬ (0 : Int) < (s.size : Int) := by omega
    go_enter Tryz.func113, Tryz.ntmps113
    go_wp2_with fail
    go_ret
    exact ⟨rfl, rfl⟩
  · have hg : goesB s = blankN (bt s 0) := by unfold goesB; rw [decide_eq_true (by omega)]; rfl
    rw [hg]
    have hb := bt_at s 0 (by omega)
    have q0 : (0 : Int) < (s.size : Int) := by omega
    by_cases h32 : bt s 0 = 32
    · rw [h32] at hb ⊢
      go_enter Tryz.func113, Tryz.ntmps113
      go_wp2_with fail
      go_ret
      exact ⟨rfl, rfl⟩
    · by_cases h9 : bt s 0 = 9
      · rw [h9] at hb ⊢
        go_enter Tryz.func113, Tryz.ntmps113
        go_wp2_with fail
        go_ret
        exact ⟨rfl, rfl⟩
      · have hn : blankN (bt s 0) = false := by unfold blankN; simp [h32, h9]
        rw [hn]
        generalize bt s 0 = c at *
        have q1 : ((c : Int) == 32) = false := by rw [beq_eq_false_iff_ne]; omega
        have q2 : ((c : Int) == 9) = false := by rw [beq_eq_false_iff_ne]; omega
        go_enter Tryz.func113, Tryz.ntmps113
        go_wp2_with fail
        go_ret
        exact ⟨rfl, rfl⟩
theorem ext0_all (x : ByteArray) : x.extract 0 x.size = x := ba_ext (by rw [ext0_list, List.take_of_length_le (by rw [← ba_size]; exact Nat.le_refl _)])
theorem end_step {x : ByteArray} {m : Nat} (h : x.size = m + 1) (hb : blankN (bt x m) = true) : endB (x.extract 0 m) = endB x := by
  have := endB_yes (s := x) (n := m) (by omega) hb
  rw [← h, ext0_all] at this
  exact this.symm
theorem end_stop {x : ByteArray} {m : Nat} (h : x.size = m + 1) (hb : blankN (bt x m) = false) : endB x = x := by
  have := endB_no (s := x) (n := m) (by omega) hb
  rw [← h, ext0_all] at this
  exact this
theorem end_nil {x : ByteArray} (h : x.size = 0) : endB x = x := by
  have h0 : x = ⟨#[]⟩ := (ByteArray.size_eq_zero_iff.1 h).trans rfl
  subst h0
  exact ba_ext rfl
set_option maxHeartbeats 2000000 in
theorem rend_any (s : ByteArray) (w : World) (hs : s.size ≤ 1000000000) : Calls Tryz.prog 114 #[.string s] w fun e w' => e = .returned (.string (endB s)) ∧ w = w' := by
  go_enter Tryz.func114, Tryz.ntmps114
  go_wp2_with fail
  go_loop [0] (fun v => ∃ x : ByteArray, v = .string x ∧ x.size ≤ s.size ∧ endB x = endB s) (fun v => match v with | .string x => x.size | _ => 0)
  case atStart => exact ⟨s, rfl, Nat.le_refl _, rfl⟩
  case round =>
    obtain ⟨x, rfl, hx, he⟩ := hrel
    have HE := Kp.mk he
    clear he
    rcases Nat.eq_zero_or_pos x.size with h0 | h0
    · have HX := Kp.mk (end_nil h0)
      have q0 : ¬ (0 : Int) < (x.size : Int) := by omega
      go_wp2_with fail
      go_ret
      exact ⟨by rw [← HE.out, HX.out] <;> rfl, rfl⟩
    · obtain ⟨m, hm⟩ : ∃ m, x.size = m + 1 := ⟨x.size - 1, by omega⟩
      have hb := bt_at x m (by omega)
      have q0 : (0 : Int) < (x.size : Int) := by omega
      have q1 : IntKind.i64.wrap ((x.size : Int) - 1) = (m : Int) := by rw [wrap_small _ (by omega) (by omega)]; omega
      have q2 : (0 : Int) ≤ (m : Int) := by omega
      have q3 : (m : Int) < (x.size : Int) := by omega
      have q4 : (m : Int) ≤ (x.size : Int) := by omega
      have HS := Kp.mk (fun h => end_step hm h)
      have HN := Kp.mk (fun h => end_stop hm h)
      have hzz : (x.extract 0 m).size = m := by rw [ByteArray.size_extract]; omega
      by_cases h32 : bt x m = 32
      · have HS2 := Kp.mk (HS.out (by rw [h32]; rfl))
        rw [h32] at hb
        go_wp2_with fail
        go_round
        case rel => exact ⟨x.extract 0 m, rfl, by rw [hzz]; omega, HS2.out.trans HE.out⟩
        case measure => show (x.extract 0 m).size < x.size; rw [hzz]; omega
      · by_cases h9 : bt x m = 9
        · have HS2 := Kp.mk (HS.out (by rw [h9]; rfl))
          rw [h9] at hb
          go_wp2_with fail
          go_round
          case rel => exact ⟨x.extract 0 m, rfl, by rw [hzz]; omega, HS2.out.trans HE.out⟩
          case measure => show (x.extract 0 m).size < x.size; rw [hzz]; omega
        · have HN2 := Kp.mk (HN.out (by unfold blankN; simp [h32, h9]))
          generalize bt x m = c at *
          have r1 : ((c : Int) == 32) = false := by rw [beq_eq_false_iff_ne]; omega
          have r2 : ((c : Int) == 9) = false := by rw [beq_eq_false_iff_ne]; omega
          go_wp2_with fail
          go_ret
          exact ⟨by rw [← HE.out, HN2.out] <;> rfl, rfl⟩
/-- A row of the call's own at a slice that came of a literal without elements. -/
theorem lit0 (W : World) {B : Nat} (hB : B ≤ W.heap.size) : (W.alloc (.cells #[] 9)).ownsRow B 9 1 (.slice (some ⟨W.heap.size, 0, none⟩) 0 0) 0 [] := by
  have := World.ownsRow_lit (base := B) (e := 9) (size := 1) W #[] 0 hB (by unfold maxLen; omega) rfl
  exact this
theorem init_cells {w : World} {B g cap : Nat} {V : List ByteArray} {a : ByteArray} (h : w.ownsRow B 9 1 (.slice (some ⟨g, 0, none⟩) (V.length + 1) cap) (V.length + 1) (svH (V ++ [a]))) :
    ∀ (j : Nat) (hj : j < V.length), w.cell? ⟨g, 0 + j, none⟩ = some (.string V[j]) := fun j hj => by
  have hl : (V ++ [a]).length = V.length + 1 := by simp
  have hr := rds_own (l := V ++ [a]) (by rw [hl]; exact h)
  obtain ⟨b, o, he, hgl, dd⟩ := rds_cells hr (by rw [hl]; omega)
  cases he
  have := dd j (by rw [hl]; omega)
  rwa [List.getElem_append_left hj] at this
theorem cell_alloc {w : World} {p : Addr} {v : Value} (h : w.cell? p = some v) (o : Obj) : (w.alloc o).cell? p = some v := by
  have e := cell_nospot h
  rw [e] at h ⊢
  have hlt := World.block_lt_of_cell? w _ h
  exact (((Below.refl w.heap.size w).alloc (Nat.le_refl _) o).cell (p := ⟨p.block, p.off, none⟩) hlt).trans h
theorem new_cell (w : World) (x : Value) : (w.alloc (.cells #[x] 9)).cell? ⟨w.heap.size, 0 + 0, none⟩ = some x := blk_cell (heap_alloc_new w _) rfl
theorem one_cells {w : World} {g : Nat} {x : ByteArray} (h : w.cell? ⟨g, 0 + 0, none⟩ = some (.string x)) : ∀ (j : Nat) (hj : j < [x].length), w.cell? ⟨g, 0 + j, none⟩ = some (.string [x][j]) := fun j hj => by
  have : j = 0 := by simp at hj; omega
  subst this
  exact h
theorem grown_cell {w w' : World} {g : Nat} {u : Value} {row : Option Nat} (h : w.cell? ⟨g, 0 + 0, none⟩ = some u) (hg : w.grownBy w' row) (hr : row ≠ some g) : w'.cell? ⟨g, 0 + 0, none⟩ = some u := by
  have hlt := World.block_lt_of_cell? w _ h
  rw [World.cell?_of_block (w := w) (hg.block g hlt fun e => hr e.symm)]
  exact h
set_option maxRecDepth 100000 in
set_option maxHeartbeats 8000000 in
theorem runfold_any (fold : Int) (v : Value) (L : List ByteArray) (w : World) (hv : RdS w v L) (hl : L.length ≤ 1000) (hz : ∀ s ∈ L, s.size ≤ 100000) :
    Calls Tryz.prog 83 #[.int .i64 fold, v] w (RetU fold L w) := by
  have HV := Kp.mk hv
  have HZ := Kp.mk hz
  have HO0 := Kp.mk (lit0 w (Nat.le_refl _))
  have HB0 := Kp.mk ((Below.refl w.heap.size w).alloc (Nat.le_refl _) (.cells #[] 9))
  obtain ⟨av, cv, rfl, -, -, -⟩ := hv
  clear hz
  go_enter Tryz.func83, Tryz.ntmps83
  go_wp2_with fail
  go_loopw [6, 7] (fun ov i wr => ∃ (k : Nat) (W : List ByteArray), k ≤ L.length ∧ i = .int .i64 k ∧ ufAt fold L k = some W ∧ (k = 0 ↔ W = []) ∧ wr.ownsRow w.heap.size 9 1 ov W.length (svH W) ∧ Below w.heap.size w wr) (fun _ i _ => L.length - (intOf i).toNat)
  case atStart => exact ⟨0, [], by omega, rfl, rfl, by simp, HO0.out, HB0.out⟩
  case round =>
    obtain ⟨k, W, hk, rfl, hu, hkw, hown, hb⟩ := hrel
    obtain ⟨aw, cw, rfl⟩ := own_lenH hown
    have HOW := Kp.mk hown
    have HB := Kp.mk hb
    have HAT := Kp.mk hu
    have HKW := Kp.mk hkw
    have hWl := ufAt_len hu
    have hsz := hb.size
    have hWz := Kp.mk (fun x (hx : x ∈ W) => show x.size ≤ 900000000 by
      have h1 := ufAt_sm HZ.out hu x hx
      have h2 : k * (100000 + 1) ≤ 1000 * (100000 + 1) := Nat.mul_le_mul_right _ (by omega)
      omega)
    clear hu hown hb hkw
    by_cases hlt : k < L.length
    · obtain ⟨g, o, rfl, hgl, dd⟩ := rds_cells (HV.out.below HB.out) (by omega)
      have c1 := dd k hlt
      have m1 := HZ.out L[k] (List.getElem_mem hlt)
      have q0 : (0 : Int) ≤ (k : Int) := by omega
      have q1 : (k : Int) < (L.length : Int) := by omega
      have HST := Kp.mk (ufAt_step (fold := fold) hlt)
      rw [HAT.out] at HST
      clear dd
      generalize L[k] = s at *
      have GO := Kp.mk (fun w => rgoes_any s w (by omega))
      cases hg : goesB s
      · rw [hg] at GO
        have HN := Kp.mk (HST.out.trans (ufS_new hg))
        clear hg
        have hlen : (W.length + 1) * 16 ≤ 140737488355328 := by omega
        have hmx : W.length + 1 ≤ maxLen := by unfold maxLen; omega
        go_wp2_with fail
        refine (GO.out _).mono ?_
        rintro e w2 ⟨rfl, rfl⟩
        go_wp2_with (at_builtin; refine app_any rfl _ _ _ _ rfl Tryz.underlying24 _ _ _ Tryz.infoSH rfl (by omega) w.heap.size _ _ _ rfl HOW.out #[.string s] rfl (fun u hu => by simp at hu; subst hu; rfl) _ rfl rfl hlen hmx hsz ?_; intro g' cap' w' h1 h2 h3; have G1 := Kp.mk h1; have G2 := Kp.mk (grown_bel HOW.out hsz h2); clear h1 h2 h3)
        go_roundw
        case rel =>
          refine ⟨k + 1, W ++ [s], by omega, by go_num, HN.out, by simp, ?_, HB.out.trans G2.out⟩
          rw [List.length_append, svH_snoc]
          exact G1.out
        case measure => simp [intOf]; omega
      · rw [hg] at GO
        by_cases hf0 : fold = 0 ∨ k = 0
        · obtain ⟨u1, u2⟩ := uf_bad (HST.out.trans (ufS_zero hg (hf0.imp id fun h => HKW.out.1 h)))
          have U1 := Kp.mk u1
          have U2 := Kp.mk u2
          clear hg u1 u2
          rcases hf0 with rfl | hk0
          · go_wp2_with fail
            refine (GO.out _).mono ?_
            rintro e w2 ⟨rfl, rfl⟩
            go_wp2_with fail
            go_ret2
            exact ⟨.slice none 0 0, by rw [U2.out] <;> rfl, by rw [U1.out]; exact World.ownsRow_nil _ _ _ _, HB.out⟩
          · have q9 : ((k : Int) == 0) = true := by rw [beq_iff_eq]; omega
            clear hk0
            cases hq : (fold == 0)
            all_goals
              go_wp2_with fail
              refine (GO.out _).mono ?_
              rintro e w2 ⟨rfl, rfl⟩
              go_wp2_with fail
              go_ret2
              exact ⟨.slice none 0 0, by rw [U2.out] <;> rfl, by rw [U1.out]; exact World.ownsRow_nil _ _ _ _, HB.out⟩
        · have hf1 : fold ≠ 0 := fun e => hf0 (.inl e)
          have hk0 : k ≠ 0 := fun e => hf0 (.inr e)
          rcases List.eq_nil_or_concat W with e | ⟨V, a, e⟩
          · exact absurd (HKW.out.2 e) hk0
          · rw [List.concat_eq_append] at e
            have HN := Kp.mk (show ufAt fold L (k + 1) = some (V ++ [joinT a s]) by rw [HST.out, e]; exact ufS_join hg hf1)
            have haz := hWz.out a (by rw [e]; simp)
            have hVl : W.length = V.length + 1 := by rw [e, List.length_append]; rfl
            have OW := Kp.mk HOW.out
            rw [hVl, e] at OW
            obtain ⟨gw, rfl⟩ : ∃ gw, aw = some ⟨gw, 0, none⟩ := by
              rcases OW.out.2 with ⟨_, h9⟩ | ⟨g', cap', cur, hv, _⟩
              · omega
              · cases hv; exact ⟨_, rfl⟩
            have hgB := OW.out.lt gw rfl
            have HIC := Kp.mk (init_cells OW.out)
            have d5 : wr.cell? ⟨gw, V.length, none⟩ = some (.string a) := by
              have hl9 : (V ++ [a]).length = V.length + 1 := by simp
              have hr := rds_own (l := V ++ [a]) (by rw [hl9]; exact OW.out)
              obtain ⟨b, o9, he, _, d9⟩ := rds_cells hr (by rw [hl9]; omega)
              cases he
              have := d9 V.length (by rw [hl9]; omega)
              simpa using this
            have hVb : V.length + 1 ≤ 1000 := by omega
            rw [← hVl] at OW
            generalize W.length = n at *
            have hcw : n ≤ cw ∧ cw ≤ maxLen := by
              rcases OW.out.2 with ⟨_, h9⟩ | ⟨g', cap', cur, hv, _, _, h8, h7, _⟩
              · omega
              · cases hv; exact ⟨h8, h7⟩
            unfold maxLen at hcw
            have hcw1 : (V.length : Int) ≤ (cw : Int) := by omega
            have hcw3 : (cw == 0) = false := by rw [beq_eq_false_iff_ne]; omega
            have hcw4 : ¬ cw = 0 := by omega
            have p0 : ¬ (n : Int) = 0 := by omega
            have pw : IntKind.i64.wrap ((n : Int) - 1) = (V.length : Int) := by rw [wrap_small _ (by omega) (by omega)]; omega
            have p1 : (0 : Int) ≤ (V.length : Int) := by omega
            have p2 : (V.length : Int) < (n : Int) := by omega
            have q2 : (fold == 0) = false := beq_eq_false_iff_ne.2 hf1
            have q3 : ((k : Int) == 0) = false := by rw [beq_eq_false_iff_ne]; omega
            clear hg hf0 e HOW HAT HST HKW hWz hWl hVl
            go_wp2_with fail
            refine (GO.out _).mono ?_
            rintro e w2 ⟨rfl, rfl⟩
            go_upto_region 10 with fail
            have hgw : gw < wr.heap.size := hgB.2
            have hgl2 : g < wr.heap.size := hgl
            have ST := Kp.mk (fun {X : World} (hb : Below wr.heap.size wr X) => show (X.cell? ⟨gw, V.length, none⟩ = some (.string a) ∧ X.cell? ⟨g, o + k, none⟩ = some (.string s)) from ⟨(hb.cell (p := ⟨gw, V.length, none⟩) hgw).trans d5, (hb.cell (p := ⟨g, o + k, none⟩) hgl2).trans c1⟩)
            have ICT := Kp.mk (fun {X : World} (hb : Below wr.heap.size wr X) => show ∀ (j : Nat) (hj : j < V.length), X.cell? ⟨gw, 0 + j, none⟩ = some (.string V[j]) from fun j hj => (hb.cell (p := ⟨gw, _, none⟩) hgw).trans (HIC.out j hj))
            have HD := Kp.mk (show Below wr.heap.size wr wr.drew from (Below.refl _ _).drew)
            have sA : (endB a).size ≤ 900000000 := by have := endB_le a; omega
            have sB : (trimB s).size ≤ 100000 := by have := trimB_size s; omega
            have k1 : ¬ 9223372036854775807 < (endB a).size + 1 := by omega
            have k2 : ¬ 9223372036854775807 < (endB a).size + 1 + (trimB s).size := by omega
            have lenA : (0 + V.length) * 16 ≤ 140737488355328 := by omega
            have lenB : 0 + V.length ≤ maxLen := by unfold maxLen; omega
            have lenC : (V.length + 1) * 16 ≤ 140737488355328 := by omega
            have lenD : V.length + 1 ≤ maxLen := by unfold maxLen; omega
            have REN := Kp.mk (fun w => rend_any a w (by omega))
            have RTR := Kp.mk (fun w => ref_trim_any s w (by unfold maxLen; omega))
            have HJT := Kp.mk (show joinT a s = endB a ++ ⟨#[32]⟩ ++ trimB s from rfl)
            have HOL := Kp.mk (lit0 wr.drew (B := wr.heap.size) (Nat.le_refl _))
            have HDA := Kp.mk (HD.out.alloc HD.out.size (.cells #[] 9))
            have hszA : wr.heap.size ≤ (wr.drew.alloc (.cells #[] 9)).heap.size := HDA.out.size
            refine wp_region_held_drew (S := fun w' => w'.cell? ⟨gw, V.length, none⟩ = some (.string a) ∧ w'.cell? ⟨g, o + k, none⟩ = some (.string s)) (by kernel_rfl) (ST.out HD.out) (fun hHeld => ?_)
            refine wpAnyH_take (i := 1) (oi := ⟨some 39, .move (.tmp 6), _, _, _, none⟩) (v := ?_) rfl (by kernel_rfl) (by kernel_rfl) (by kernel_rfl) (fun _ _ _ h => h) (Or.inl ⟨by rfl, ?_⟩) (by assumption) ?_
            rotate_left
            · intro w hSw
              try dsimp only at hSw
              go_simp
              try with_reducible rfl
            try simp only [Act.put, List.setIfInBounds_toArray, List.set_cons_zero, List.set_cons_succ]
            refine wpAnyH_take (i := 2) (oi := ⟨some 40, .move (.tmp 8), _, _, _, none⟩) (v := ?_) rfl (by kernel_rfl) (by kernel_rfl) (by kernel_rfl) (fun _ _ _ h => h) (Or.inl ⟨by rfl, ?_⟩) (by assumption) ?_
            rotate_left
            · intro w hSw
              try dsimp only at hSw
              go_simp
              try with_reducible rfl
            try simp only [Act.put, List.setIfInBounds_toArray, List.set_cons_zero, List.set_cons_succ]
            refine wpAnyH_take (i := 3) (oi := ⟨some 41, .slice 24 (.tmp 39) none (some (.tmp 40)) none, _, _, _, none⟩) (v := ?_) rfl (by kernel_rfl) (by kernel_rfl) (by kernel_rfl) (fun _ _ _ h => h) (Or.inl ⟨by rfl, ?_⟩) (by assumption) ?_
            rotate_left
            · intro w hSw
              try dsimp only at hSw
              go_simp
              try with_reducible rfl
            try simp only [Act.put, List.setIfInBounds_toArray, List.set_cons_zero, List.set_cons_succ]
            refine wpAnyH_take (i := 5) (oi := ⟨some 43, .move (.tmp 6), _, _, _, none⟩) (v := ?_) rfl (by kernel_rfl) (by kernel_rfl) (by kernel_rfl) (fun _ _ _ h => h) (Or.inl ⟨by rfl, ?_⟩) (by assumption) ?_
            rotate_left
            · intro w hSw
              try dsimp only at hSw
              go_simp
              try with_reducible rfl
            try simp only [Act.put, List.setIfInBounds_toArray, List.set_cons_zero, List.set_cons_succ]
            refine wpAnyH_take (i := 6) (oi := ⟨some 44, .move (.tmp 8), _, _, _, none⟩) (v := ?_) rfl (by kernel_rfl) (by kernel_rfl) (by kernel_rfl) (fun _ _ _ h => h) (Or.inl ⟨by rfl, ?_⟩) (by assumption) ?_
            rotate_left
            · intro w hSw
              try dsimp only at hSw
              go_simp
              try with_reducible rfl
            try simp only [Act.put, List.setIfInBounds_toArray, List.set_cons_zero, List.set_cons_succ]
            refine wpAnyH_take (i := 7) (oi := ⟨some 45, .indexAddr 24 (.tmp 43) (.tmp 44), _, _, _, none⟩) (v := ?_) rfl (by kernel_rfl) (by kernel_rfl) (by kernel_rfl) (fun _ _ _ h => h) (Or.inl ⟨by rfl, ?_⟩) (by assumption) ?_
            rotate_left
            · intro w hSw
              try dsimp only at hSw
              go_simp
              try with_reducible rfl
            try simp only [Act.put, List.setIfInBounds_toArray, List.set_cons_zero, List.set_cons_succ]
            refine wpAnyH_take (i := 11) (oi := ⟨some 49, .move (.tmp 1), _, _, _, none⟩) (v := ?_) rfl (by kernel_rfl) (by kernel_rfl) (by kernel_rfl) (fun _ _ _ h => h) (Or.inl ⟨by rfl, ?_⟩) (by assumption) ?_
            rotate_left
            · intro w hSw
              try dsimp only at hSw
              go_simp
              try with_reducible rfl
            try simp only [Act.put, List.setIfInBounds_toArray, List.set_cons_zero, List.set_cons_succ]
            refine wpAnyH_take (i := 12) (oi := ⟨some 50, .move (.tmp 7), _, _, _, none⟩) (v := ?_) rfl (by kernel_rfl) (by kernel_rfl) (by kernel_rfl) (fun _ _ _ h => h) (Or.inl ⟨by rfl, ?_⟩) (by assumption) ?_
            rotate_left
            · intro w hSw
              try dsimp only at hSw
              go_simp
              try with_reducible rfl
            try simp only [Act.put, List.setIfInBounds_toArray, List.set_cons_zero, List.set_cons_succ]
            refine wpAnyH_take (i := 13) (oi := ⟨some 51, .indexAddr 24 (.tmp 49) (.tmp 50), _, _, _, none⟩) (v := ?_) rfl (by kernel_rfl) (by kernel_rfl) (by kernel_rfl) (fun _ _ _ h => h) (Or.inl ⟨by rfl, ?_⟩) (by assumption) ?_
            rotate_left
            · intro w hSw
              try dsimp only at hSw
              go_simp
              try with_reducible rfl
            try simp only [Act.put, List.setIfInBounds_toArray, List.set_cons_zero, List.set_cons_succ]
            refine wpAnyH_take (i := 8) (oi := ⟨some 46, .load 9 (.tmp 45), _, _, _, none⟩) (v := ?_) rfl (by kernel_rfl) (by kernel_rfl) (by kernel_rfl) (fun _ _ _ h => h) (Or.inl ⟨by rfl, ?_⟩) (by assumption) ?_
            rotate_left
            · intro w hSw
              try dsimp only at hSw
              go_simp
              try with_reducible rfl
            try simp only [Act.put, List.setIfInBounds_toArray, List.set_cons_zero, List.set_cons_succ]
            refine wpAnyH_take (i := 14) (oi := ⟨some 52, .load 9 (.tmp 51), _, _, _, none⟩) (v := ?_) rfl (by kernel_rfl) (by kernel_rfl) (by kernel_rfl) (fun _ _ _ h => h) (Or.inl ⟨by rfl, ?_⟩) (by assumption) ?_
            rotate_left
            · intro w hSw
              try dsimp only at hSw
              go_simp
              try with_reducible rfl
            try simp only [Act.put, List.setIfInBounds_toArray, List.set_cons_zero, List.set_cons_succ]
            refine wpAnyH_ready (rs := [0]) (by kernel_rfl) (by simp) ?_
            refine AllReadyH.cons (o := ⟨some 38, _, _, _, _, none⟩) rfl (fun K hK => ?_) AllReadyH.nil
            go_simp
            refine hK.out _ _ (ST.out (HD.out.alloc HD.out.size _)) (fun hHeld2 => ?_)
            clear hK K
            try simp only [Act.put, List.setIfInBounds_toArray, List.set_cons_zero, List.set_cons_succ]
            refine wpAnyH_ready (rs := [4]) (by kernel_rfl) (by simp) ?_
            refine AllReadyH.cons (o := ⟨some 42, _, _, _, _, none⟩) rfl (fun K hK => ?_) AllReadyH.nil
            refine op_app_strs rfl _ _ _ _ rfl Tryz.underlying24 _ Tryz.infoSH rfl wr.heap.size (.slice (some ⟨wr.heap.size, 0, none⟩) 0 0) 0 _ rfl HOL.out gw 0 cw V rfl (ICT.out HDA.out) lenA lenB hszA ?_
            intro a1 c1' w1 h1 h2
            rw [Nat.zero_add] at h1 ⊢
            replace HD := Kp.mk (HDA.out.grown h2 (by have := HDA.out.size; omega) (fun k hk => by simp [Value.ownBlock] at hk; exact Nat.le_of_eq hk))
            have HO1 := Kp.mk h1
            have hsz1 : wr.heap.size ≤ w1.heap.size := HD.out.size
            clear h1 h2
            refine hK.out _ _ (ST.out HD.out) (fun hHeld2 => ?_)
            clear hK K
            try simp only [Act.put, List.setIfInBounds_toArray, List.set_cons_zero, List.set_cons_succ]
            refine wpAnyH_ready (rs := [9]) (by kernel_rfl) (by simp) ?_
            refine AllReadyH.cons (o := ⟨some 47, _, _, _, _, none⟩) rfl (fun K hK => ?_) AllReadyH.nil
            go_simp
            (go_at_call 114; refine (REN.out _).mono ?_; rintro e wn ⟨rfl, rfl⟩)
            try go_wp2_with fail
            refine hK.out _ _ (ST.out HD.out) (fun hHeld2 => ?_)
            clear hK K
            try simp only [Act.put, List.setIfInBounds_toArray, List.set_cons_zero, List.set_cons_succ]
            refine wpAnyH_take (i := 10) (oi := ⟨some 48, .binOp .add 9 (.tmp 47) (.const (.string ⟨#[32]⟩)) 9, _, _, _, none⟩) (v := ?_) rfl (by kernel_rfl) (by kernel_rfl) (by kernel_rfl) (fun _ _ _ h => h) (Or.inl ⟨by rfl, ?_⟩) (by assumption) ?_
            rotate_left
            · intro w hSw
              try dsimp only at hSw
              go_simp
              try with_reducible rfl
            try simp only [Act.put, List.setIfInBounds_toArray, List.set_cons_zero, List.set_cons_succ]
            refine wpAnyH_ready (rs := [15]) (by kernel_rfl) (by simp) ?_
            refine AllReadyH.cons (o := ⟨some 53, _, _, _, _, none⟩) rfl (fun K hK => ?_) AllReadyH.nil
            go_simp
            (go_at_call 98; refine (RTR.out _).mono ?_; rintro e wn ⟨rfl, rfl⟩)
            try go_wp2_with fail
            refine hK.out _ _ (ST.out HD.out) (fun hHeld2 => ?_)
            clear hK K
            try simp only [Act.put, List.setIfInBounds_toArray, List.set_cons_zero, List.set_cons_succ]
            refine wpAnyH_take (i := 16) (oi := ⟨some 54, .binOp .add 9 (.tmp 48) (.tmp 53) 9, _, _, _, none⟩) (v := ?_) rfl (by kernel_rfl) (by kernel_rfl) (by kernel_rfl) (fun _ _ _ h => h) (Or.inl ⟨by rfl, ?_⟩) (by assumption) ?_
            rotate_left
            · intro w hSw
              try dsimp only at hSw
              go_simp
              try with_reducible rfl
            try simp only [Act.put, List.setIfInBounds_toArray, List.set_cons_zero, List.set_cons_succ]
            refine wpAnyH_ready (rs := [17]) (by kernel_rfl) (by simp) ?_
            refine AllReadyH.cons (o := ⟨some 55, _, _, _, _, none⟩) rfl (fun K hK => ?_) AllReadyH.nil
            go_simp
            refine hK.out _ _ (ST.out (HD.out.alloc HD.out.size _)) (fun hHeld2 => ?_)
            clear hK K
            try simp only [Act.put, List.setIfInBounds_toArray, List.set_cons_zero, List.set_cons_succ]
            refine wpAnyH_ready (rs := [18]) (by kernel_rfl) (by simp) ?_
            refine AllReadyH.cons (o := ⟨some 56, _, _, _, _, none⟩) rfl (fun K hK => ?_) AllReadyH.nil
            apply oq_app_any (wr := w1) (e := 9) (cs := #[.string (endB a ++ ⟨#[32]⟩ ++ trimB s)]) (B := wr.heap.size) (v := .slice a1 V.length c1') (hown := HO1.out) (H := w1.heap.size) (hH := rfl) (hlen := lenC) (hm := lenD) (hB := hsz1) (hi := Tryz.infoSH) (ht := Tryz.underlying24)
            all_goals (try (first | rfl | decide | (intro u hu; simp at hu; subst hu; rfl)))
            intro g' cap' w' h1 h2 h3
            have G1 := Kp.mk h1
            have G2 := Kp.mk (grown_bel HO1.out hsz1 h2)
            clear h1 h2 h3
            refine hK.out _ _ (ST.out (HD.out.trans G2.out)) (fun hHeld2 => ?_)
            clear hK K
            try simp only [Act.put, List.setIfInBounds_toArray, List.set_cons_zero, List.set_cons_succ]
            refine wpAnyH_take (i := 19) (oi := ⟨some 6, .assign (.tmp 56), _, _, _, none⟩) (v := ?_) rfl (by kernel_rfl) (by kernel_rfl) (by kernel_rfl) (fun _ _ _ h => h) (Or.inl ⟨by rfl, ?_⟩) (by assumption) ?_
            rotate_left
            · intro w hSw
              try dsimp only at hSw
              go_simp
              try with_reducible rfl
            try simp only [Act.put, List.setIfInBounds_toArray, List.set_cons_zero, List.set_cons_succ]
            refine wpAnyH_done (by kernel_rfl) ?_ _
            go_wp2_with fail
            go_roundw
            case rel =>
              refine ⟨k + 1, V ++ [joinT a s], by omega, by go_num, HN.out, by simp, ?_, HB.out.trans ((HD.out.trans G2.out).mono hsz)⟩
              rw [List.length_append, svH_snoc, HJT.out]
              exact own_lowF G1.out hsz
            case measure => simp [intOf]; omega
    · obtain rfl : k = L.length := by omega
      obtain ⟨u1, u2⟩ := uf_good HAT.out
      have U1 := Kp.mk u1
      have U2 := Kp.mk u2
      clear u1 u2
      go_wp2_with fail
      go_ret2
      exact ⟨.slice aw W.length cw, by rw [U2.out] <;> rfl, by rw [U1.out]; exact HOW.out, HB.out⟩
theorem litF (W : World) {B : Nat} (hB : B ≤ W.heap.size) : (W.alloc (.cells #[] 67)).ownsRow B 67 2 (.slice (some ⟨W.heap.size, 0, none⟩) 0 0) 0 [] := World.ownsRow_lit (base := B) (e := 67) (size := 2) W #[] 0 hB (by unfold maxLen; omega) rfl
set_option maxRecDepth 100000 in
set_option maxHeartbeats 4000000 in
theorem rfall_any (fold : Int) (v : Value) (L : List ByteArray) (w : World) (hv : RdS w v L) (hl : L.length ≤ 1000) (hz : ∀ s ∈ L, s.size ≤ 900) :
    Calls Tryz.prog 31 #[.int .i64 fold, v] w (RetUA fold L w) := by
  have HU := Kp.mk (runfold_any fold v L w hv hl (fun s hs => by have := hz s hs; omega))
  unfold RetU at HU
  have HZ := Kp.mk (ufL_sm (fold := fold) hl hz)
  have hln := ufL_len fold L
  have HW := Kp.mk (uf_ways fold L)
  have HE := Kp.mk (show afE fold L = if ufE fold L = 0 then faE (ufL fold L) else ufE fold L from rfl)
  have HL := Kp.mk (show afL fold L = faL (ufL fold L) from rfl)
  obtain ⟨av, cv, rfl, -, -, -⟩ := hv
  go_enter Tryz.func31, Tryz.ntmps31
  go_wp2_with fail
  refine HU.out.mono ?_
  rintro e w1 ⟨u, rfl, ho, hb⟩
  have HR := Kp.mk (rds_own ho)
  obtain ⟨a1, c1, rfl⟩ := own_lenH ho
  have HB1 := Kp.mk hb
  have HO0 := Kp.mk (litF w1 (Nat.le_refl _))
  have HBL := Kp.mk ((Below.refl w1.heap.size w1).alloc (Nat.le_refl _) (.cells #[] 67))
  clear ho hb
  rcases HW.out with h0 | ⟨h0, h1⟩
  · rw [h0, if_pos rfl] at HE
    rw [h0]
    generalize ufL fold L = W at *
    clear HU HW h0
    go_wp2_with fail
    go_loopw [8, 9] (fun ov i wr => ∃ k : Nat, k ≤ W.length ∧ i = .int .i64 k ∧ (∀ x ∈ W.take k, fldE x = 0) ∧ wr.ownsRow w1.heap.size 67 2 ov (faP W k).length (fvH (faP W k)) ∧ Below w1.heap.size w1 wr) (fun _ i _ => W.length - (intOf i).toNat)
    case atStart => exact ⟨0, by omega, rfl, by simp, HO0.out, HBL.out⟩
    case round =>
      obtain ⟨k, hk, rfl, hp, hown, hb⟩ := hrel
      obtain ⟨av, cv, rfl⟩ := own_lenH hown
      have HOW := Kp.mk hown
      have HB := Kp.mk hb
      have HBW := Kp.mk (HB1.out.trans (hb.mono HB1.out.size))
      have HP := Kp.mk hp
      have hle := faP_len W k
      clear hown hb hp
      by_cases hlt : k < W.length
      · obtain ⟨g, o, rfl, hgl, dd⟩ := rds_cells (HR.out.below HB.out) (by omega)
        have c1 := dd k hlt
        have m1 := HZ.out W[k] (List.getElem_mem hlt)
        have q0 : (0 : Int) ≤ (k : Int) := by omega
        have q1 : (k : Int) < (W.length : Int) := by omega
        have HST := Kp.mk (faP_step hlt)
        have HMO := Kp.mk (fa_more hlt HP.out)
        have HBAD := Kp.mk (fa_bad hlt HP.out)
        clear dd
        unfold fldOf at HST
        generalize W[k] = s at *
        have FP := Kp.mk (fun w => rfparse_any s w m1)
        unfold FldRet at FP
        generalize fldN s = fn at *
        generalize fldV s = fv at *
        generalize hE : fldE s = fe at *
        generalize hQ : faP W k = Q at *
        have hlen : (Q.length + 1) * 32 ≤ 140737488355328 := by omega
        have hmx : Q.length + 1 ≤ maxLen := by unfold maxLen; omega
        go_wp2_with fail
        refine (FP.out _).mono ?_
        rintro e w2 ⟨rfl, hb2⟩
        have HB2 := Kp.mk (HB.out.trans (hb2.mono HB.out.size))
        have HO2 := Kp.mk ((own_bel HOW.out hb2).alloc (.cells #[.string fn, .string fv] 67))
        have HBX := Kp.mk (HB2.out.alloc HB2.out.size (.cells #[.string fn, .string fv] 67))
        have hszX : w1.heap.size ≤ (w2.alloc (.cells #[.string fn, .string fv] 67)).heap.size := HBX.out.size
        clear hb2 c1
        by_cases h0 : fe = 0
        · subst h0
          have HMO2 := Kp.mk (HMO.out rfl)
          go_wp2_with (at_builtin; (refine app_any rfl _ _ _ _ rfl Tryz.underlying27 _ _ _ Tryz.infoFH rfl (by omega) w1.heap.size _ _ _ rfl HO2.out #[.string fn, .string fv] rfl (fun u hu => by simp at hu; rcases hu with rfl | rfl <;> rfl) (w2.heap.size + 1) (by simp) rfl hlen hmx hszX ?_; intro g' cap' w' h1 h2 h3; have G1 := Kp.mk h1; have G2 := Kp.mk (grown_bel HO2.out hszX h2); clear h1 h2 h3))
          go_roundw
          case rel =>
            refine ⟨k + 1, by omega, by go_num, HMO2.out, ?_, HBX.out.trans G2.out⟩
            rw [HST.out, List.length_append, fvH_snoc]
            exact G1.out
          case measure => simp [intOf]; omega
        · obtain ⟨b1, b2⟩ := HBAD.out h0
          have HE2 := Kp.mk (HE.out.trans b1)
          have HL2 := Kp.mk (HL.out.trans b2)
          have HBE := Kp.mk (HB1.out.trans (HBX.out.mono HB1.out.size))
          have q7 : (fe != 0) = true := by rw [bne_iff_ne]; exact h0
          clear b1 b2
          go_wp2_with fail
          go_ret2
          exact ⟨.slice none 0 0, by rw [HE2.out] <;> rfl, by rw [HL2.out]; exact World.ownsRow_nil _ _ _ _, HBE.out⟩
      · obtain ⟨b1, b2⟩ := fa_good (show W.length ≤ k by omega) HP.out
        have HE2 := Kp.mk (HE.out.trans b1)
        have HL2 := Kp.mk (HL.out.trans b2)
        clear b1 b2
        generalize faP W k = Q at *
        go_wp2_with fail
        go_ret2
        exact ⟨.slice av Q.length cv, by rw [HE2.out] <;> rfl, by rw [HL2.out]; exact own_lowF HOW.out HB1.out.size, HBW.out⟩
  · have HE2 := Kp.mk (show afE fold L = 3 by rw [HE.out, if_neg (by rw [h0]; decide), h0])
    have HL2 := Kp.mk (show afL fold L = [] by rw [HL.out, h1]; rfl)
    rw [h1] at HR
    rw [h0, h1]
    clear h0 h1 HU HW
    go_wp2_with fail
    go_loopw [8, 9] (fun ov i wr => ov = .slice (some ⟨w1.heap.size, 0, none⟩) 0 0 ∧ i = .int .i64 0 ∧ wr = w1.alloc (.cells #[] 67)) (fun _ _ _ => 0)
    case atStart => exact ⟨rfl, rfl, rfl⟩
    case round =>
      obtain ⟨rfl, rfl, rfl⟩ := hrel
      have HBE := Kp.mk (HB1.out.trans (HBL.out.mono HB1.out.size))
      go_wp2_with fail
      go_ret2
      exact ⟨.slice (some ⟨w1.heap.size, 0, none⟩) 0 0, by rw [HE2.out] <;> rfl, by rw [HL2.out]; exact own_lowF HO0.out HB1.out.size, HBE.out⟩
/-! ### The law FieldUnfolds -/
end Go.Proofs.YtcbfhlnnfnpkdaaGreatDoor
