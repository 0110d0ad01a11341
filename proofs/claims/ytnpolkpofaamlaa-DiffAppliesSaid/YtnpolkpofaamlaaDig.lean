/- How lists of lines differ (layer 51): rows applied, and turned: the program's; the document's Apply (bin/mkdig.py). -/
import Derived.Test.YtnpolkpofaamlaaDif
import Derived.Test.YtnpolkpofaamlaaHdi
namespace Go.Proofs.Ytnpolkpofaamlaa
open Go.RowKit
set_option linter.unusedVariables false
set_option linter.unusedSimpArgs false

theorem drL_at : ∀ (l : List Dr) (j : Nat), (drL l)[j]? = (l[j / 2]?).bind fun p => (drC p)[j % 2]?
  | [], j => by simp [drL]
  | p :: r, 0 => by simp [drL, drC]
  | p :: r, 1 => by simp [drL, drC]
  | p :: r, j + 2 => by
    have h1 : (j + 2) / 2 = j / 2 + 1 := by omega
    have h2 : (j + 2) % 2 = j % 2 := by omega
    rw [h1, h2, List.getElem?_cons_succ, ← drL_at r j]
    simp [drL, drC]
theorem drL_one : ∀ (l : List Dr), ∀ u ∈ drL l, u.oneCell' = true := by
  intro l u hu
  obtain ⟨p, hp, hu⟩ := List.mem_flatMap.1 hu
  simp [drC] at hu
  rcases hu with rfl | rfl <;> rfl
theorem app_drs {P : Program} {wr : World} {ops : Array Oper} {rest : List Oper} {o : Oper} {a : Act} {Q : Exit → Act → World → Prop} (hgd : o.guard = none) (s x : Operand) (t e : TypeId)
    (ho : o.op = .call { callee := .builtin .append, args := #[s, x], argTypes := #[t, t] }) (ht : P.underlying t = some (.slice e)) (z : Value)
    (hi : (P.info? e).map (fun i => (i.zero, i.size, i.bytes)) = some (some z, 2, 24)) (hz : z.cells.size = 2) (B : Nat) (v : Value) (n : Nat) (xs : List Value) (hs : a.eval s = v) (hown : wr.ownsRow B e 2 v n xs)
    (vx : Value) (hx : a.eval x = vx) (l : List Dr) (hv : RdDr wr vx l) (hlen : (n + l.length) * 24 ≤ 140737488355328) (hm : n + l.length ≤ maxLen) (hB : B ≤ wr.heap.size)
    (h : ∀ v' w', w'.ownsRow B e 2 v' (n + l.length) (xs ++ drL l) → wr.grownBy w' v.ownBlock → wpList P ops Q rest (a.put o.dst v') w') :
    wpList P ops Q (o :: rest) a wr := by
  obtain ⟨i0, hi, hz0, hz1, hz2⟩ := info_parts hi
  obtain ⟨ad, c, rfl, hc1, hc2, h4⟩ := hv
  cases ad with
  | none =>
    have hl : l = [] := by
      rcases Nat.eq_zero_or_pos l.length with h0 | h0
      · exact List.eq_nil_of_length_eq_zero h0
      · obtain ⟨b, off, hb, _⟩ := h4 h0
        cases hb
    subst hl
    refine wpList_plain hgd fun K hK => ?_
    have hrun := run_append_zero (P := P) (w := wr) B t o.type e i0 2 ht hi v n xs hown c
    have := h v wr (by simpa [drL] using hown) ⟨rfl, rfl, rfl, Nat.le_refl _, fun _ _ _ => rfl⟩
    unfold Oper.wp
    simp only [List.length_nil] at hx
    simp [execOp, ho, resolve, invoke, builtin, hs, hx, hrun, Result.andThen]
    exact hK _ _ this
  | some ad =>
    refine wpList_append_own _ hgd s x t ho B e i0 z 2 24 ht hi hz0 hz1 hz2 hz (by omega) v n xs hs hown ad l.length c (drL l) hx (drL_len l) ?_ (drL_one l) hm hlen hB fun v' w' g1 g2 _ => h v' w' g1 g2
    intro j u hj
    have h0 : 0 < l.length := by
      have := (List.getElem?_eq_some_iff.1 hj).1
      rw [drL_len] at this
      omega
    obtain ⟨b, off, hb, hbl, hcell⟩ := h4 h0
    cases hb
    rw [drL_at] at hj
    obtain ⟨p, hp, hq⟩ := Option.bind_eq_some_iff.1 hj
    obtain ⟨hlt, rfl⟩ := List.getElem?_eq_some_iff.1 hp
    have := hcell (j / 2) hlt (j % 2) (by omega)
    rw [hq] at this
    have e : off + j / 2 * 2 + j % 2 = off + j := by omega
    rw [e] at this
    have e2 : (⟨b, off, none⟩ : Addr).add j = ⟨b, off + j, none⟩ := by cases j <;> simp [Addr.add]
    rw [e2]
    exact this
set_option maxRecDepth 100000 in
set_option maxHeartbeats 1000000 in
theorem dclone_any (v : Value) (l : List Dr) (w : World) (hv : RdDr w v l) (hl : l.length ≤ 10000) :
    Calls Try.prog 98 #[v] w (RetDr l w) := by
  have hBA := (Below.refl w.heap.size w).alloc (Nat.le_refl _) (.cells #[] 99)
  have HVA := Kp.mk (hv.below hBA)
  have HO := Kp.mk (World.ownsRow_lit (base := w.heap.size) (e := 99) (size := 2) w #[] 0 (Nat.le_refl _) (by unfold maxLen; omega) rfl)
  have HBA := Kp.mk hBA
  have hszA : w.heap.size ≤ (w.alloc (.cells #[] 99)).heap.size := hBA.size
  have hlen0 : (0 + l.length) * 24 ≤ 140737488355328 := by omega
  have hmx0 : 0 + l.length ≤ maxLen := by unfold maxLen; omega
  obtain ⟨a, cap, rfl, -, -, h4⟩ := hv
  clear hBA
  cases a with
  | none =>
    have h0 : l = [] := by
      rcases Nat.eq_zero_or_pos l.length with h0 | h0
      · exact List.eq_nil_of_length_eq_zero h0
      · obtain ⟨b, off, hb, _⟩ := h4 h0
        cases hb
    subst h0
    clear h4
    have hE : ∀ w : World, (binOp .eql 91 (.slice none 0 cap) (.slice none 0 0)).run Try.prog w = .ok (.bool true) w := fun w => by kernel_rfl
    go_enter Try.func98, Try.ntmps98
    go_wp2_with fail
    go_ret
    exact ⟨_, rfl, World.ownsRow_nil _ _ _ _, Below.refl _ _⟩
  | some ad =>
    clear h4
    have hE : ∀ w : World, (binOp .eql 91 (.slice (some ad) l.length cap) (.slice none 0 0)).run Try.prog w = .ok (.bool false) w := fun w => by kernel_rfl
    go_enter Try.func98, Try.ntmps98
    go_wp2_with (at_builtin; refine app_drs rfl _ _ _ _ rfl Try.underlying91 _ Try.infoDr rfl w.heap.size _ 0 _ rfl HO.out _ rfl l HVA.out hlen0 hmx0 hszA ?_; intro v1 w1 h1 h2; rw [Nat.zero_add] at h1; have HB1 := Kp.mk (HBA.out.grown h2 hszA fun k hk => (HO.out.lt k hk).1); have HO1 := Kp.mk h1; clear h1 h2)
    go_ret
    exact ⟨_, rfl, HO1.out, HB1.out⟩
set_option maxRecDepth 100000 in
set_option maxHeartbeats 2000000 in
theorem dseq_any (v1 v2 : Value) (l m : List ByteArray) (w : World) (h1 : RdS w v1 l) (h2 : RdS w v2 m) (hl : l.length ≤ 1000000) (hm : m.length ≤ 1000000) :
    Calls Try.prog 97 #[v1, v2] w fun e w' => e = .returned (.bool (sameL l m)) ∧ Below w.heap.size w w' := by
  have H1 := Kp.mk h1
  have H2 := Kp.mk h2
  obtain ⟨a, cap, rfl, -, -, -⟩ := h1
  obtain ⟨a2, cap2, rfl, -, -, -⟩ := h2
  by_cases hlen : l.length = m.length
  · have hln : ((l.length : Int) != (m.length : Int)) = false := by rw [hlen]; simp
    have HLN := Kp.mk hlen
    clear hlen
    go_enter Try.func97, Try.ntmps97
    go_wp2_with fail
    go_loopw [13] (fun i wr => ∃ k : Nat, k ≤ l.length ∧ i = .int .i64 k ∧ l.take k = m.take k ∧ Below w.heap.size w wr) (fun i _ => l.length - (intOf i).toNat)
    case atStart => exact ⟨0, by omega, rfl, rfl, Below.refl _ _⟩
    case round =>
    obtain ⟨k, hk, rfl, ht, hb⟩ := hrel
    have HT := Kp.mk ht
    have HN := Kp.mk hb
    clear ht hb
    by_cases hlt : k < l.length
    · have hlt2 : k < m.length := by have := HLN.out; omega
      obtain ⟨g, o, rfl, hgl, d0⟩ := rds_cells (H1.out.below HN.out) (by omega)
      obtain ⟨g2, o2, rfl, hgl2, d1⟩ := rds_cells (H2.out.below HN.out) (by omega)
      have c1 := d0 k hlt
      have e1 := d1 k hlt2
      have q0 : (0 : Int) ≤ (k : Int) := by omega
      have q1 : (k : Int) < (l.length : Int) := by omega
      have q2 : (k : Int) < (m.length : Int) := by omega
      clear d0 d1
      generalize hx1 : l[k] = x1 at *
      generalize hy1 : m[k] = y1 at *
      by_cases hxy : x1 = y1
      · subst hxy
        have HXY := Kp.mk (show l[k] = m[k] by rw [hx1, hy1])
        clear hx1 hy1
        go_wp2_with fail
        go_quiet (fail)
        go_wp2_with fail
        go_roundw
        case rel => exact ⟨k + 1, by omega, by go_num, take_same hlt hlt2 HT.out HXY.out, HN.out.trans ((gdrewN wr nq).mono HN.out.size)⟩
        case measure => simp [intOf]; omega
      · have HXY := Kp.mk (show l[k] ≠ m[k] by rw [hx1, hy1]; exact hxy)
        have t2 := ba_tlb hxy
        have t3 : ¬ (x1.toList = y1.toList) := fun e => hxy (ba_tl.1 e)
        clear hx1 hy1
        go_wp2_with fail
        go_quiet (fail)
        go_wp2_with fail
        go_ret
        exact ⟨by rw [sameL_at hlt hlt2 HXY.out]; rfl, HN.out.trans ((gdrewN wr nq).mono HN.out.size)⟩
    · have HS := Kp.mk (sameL_all HLN.out hlt HT.out)
      go_wp2_with fail
      go_ret
      exact ⟨by rw [HS.out]; rfl, HN.out⟩
  · have hln : ((l.length : Int) != (m.length : Int)) = true := by rw [bne_iff_ne]; omega
    have HS := Kp.mk (sameL_len hlen)
    clear hlen
    go_enter Try.func97, Try.ntmps97
    go_wp2_with fail
    go_ret
    exact ⟨by rw [HS.out]; rfl, Below.refl _ _⟩

theorem svH_len51 (l : Ln) : (svH l).length = l.length := by
  induction l with
  | nil => rfl
  | cons x l ih => show (_ :: svH l).length = _; simp [ih]
theorem sameL_iff {l m : Ln} : sameL l m = decide (l = m) := rfl
theorem own_kd2 {w w' : World} {B : Nat} {e : TypeId} {sz n : Nat} {v : Value} {xs : List Value} (h : w.ownsRow B e sz v n xs) (hk : ∀ k, k < w.heap.size → v.ownBlock = some k → w'.heap[k]? = w.heap[k]?) : w'.ownsRow B e sz v n xs := by
  refine ⟨h.1, ?_⟩
  rcases h.2 with h1 | ⟨g, cap, cur, h1, h2, h3, rest⟩
  · exact .inl h1
  · refine .inr ⟨g, cap, cur, h1, h2, (hk g (blk_lt h3) ?_).trans h3, rest⟩
    subst h1
    rfl
/-- Two rows of texts that grow, apart. -/
structure Two51 (F T : Ln) (fv tv : Value) (w wr : World) : Prop where
  f : wr.ownsRow w.heap.size 9 1 fv F.length (svH F)
  t : wr.ownsRow w.heap.size 9 1 tv T.length (svH T)
  ne : ∀ g, fv.ownBlock = some g → tv.ownBlock ≠ some g
  bl : Below w.heap.size w wr
theorem Two51.below {F T : Ln} {fv tv : Value} {w wr w' : World} (h : Two51 F T fv tv w wr) (hb : Below wr.heap.size wr w') : Two51 F T fv tv w w' :=
  ⟨own_kd h.f fun g _ hg => hb.block g hg, own_kd h.t fun g _ hg => hb.block g hg, h.ne, h.bl.trans (hb.mono h.bl.size)⟩
theorem Two51.first {F T : Ln} {fv tv fv' : Value} {x : ByteArray} {w wr w' : World} {o : Obj} {g : Nat} (h : Two51 F T fv tv w wr) (h1 : w'.ownsRow w.heap.size 9 1 fv' (F.length + 1) (svH F ++ [.string x])) (h2 : (wr.alloc o).grownBy w' fv.ownBlock) (hg : fv'.ownBlock = some g) (h3 : fv.ownBlock = some g ∨ g = wr.heap.size + 1) : Two51 (F ++ [x]) T fv' tv w w' := by
  have hsz := h.bl.size
  refine ⟨by rw [List.length_append, svH_snoc]; exact h1, own_kd2 h.t (fun k hk hv => (h2.block k (by simp; omega) (fun e => h.ne k e.symm hv)).trans (Below.heap_alloc wr o k hk)), fun k hk hv => ?_, h.bl.trans (grown_bel h.f hsz h2)⟩
  rw [hg] at hk
  cases hk
  rcases h3 with h3 | h3
  · exact h.ne g h3 hv
  · have := (h.t.lt g hv).2
    omega
theorem Two51.second {F T : Ln} {fv tv tv' : Value} {x : ByteArray} {w wr w' : World} {o : Obj} {g : Nat} (h : Two51 F T fv tv w wr) (h1 : w'.ownsRow w.heap.size 9 1 tv' (T.length + 1) (svH T ++ [.string x])) (h2 : (wr.alloc o).grownBy w' tv.ownBlock) (hg : tv'.ownBlock = some g) (h3 : tv.ownBlock = some g ∨ g = wr.heap.size + 1) : Two51 F (T ++ [x]) fv tv' w w' := by
  have hsz := h.bl.size
  refine ⟨own_kd2 h.f (fun k hk hv => (h2.block k (by simp; omega) (fun e => h.ne k hv e.symm)).trans (Below.heap_alloc wr o k hk)), by rw [List.length_append, svH_snoc]; exact h1, fun k hv hk => ?_, h.bl.trans (grown_bel h.t hsz h2)⟩
  rw [hg] at hk
  cases hk
  rcases h3 with h3 | h3
  · exact h.ne g hv h3
  · have := (h.f.lt g hv).2
    omega
theorem okL_take {l : List Dr} {k : Nat} (h : k < l.length) : okL (l.take (k + 1)) = (okL (l.take k) && (l[k].1 == 0 || l[k].1 == 1 || l[k].1 == 2)) := by
  unfold okL
  rw [List.take_succ_eq_append_getElem h, List.all_append]
  simp
theorem frL_take {l : List Dr} {k : Nat} (h : k < l.length) : frL (l.take (k + 1)) = if l[k].1 != 2 then frL (l.take k) ++ [l[k].2] else frL (l.take k) := by
  unfold frL
  rw [List.take_succ_eq_append_getElem h, List.filter_append, List.map_append]
  by_cases e : (l[k].1 != 2) = true
  · rw [if_pos e]
    simp only [List.filter_cons, e, if_true, List.filter_nil, List.map_cons, List.map_nil]
  · rw [if_neg e]
    have e' := Bool.eq_false_iff.2 e
    simp only [List.filter_cons, e', List.filter_nil]
    rw [if_neg Bool.false_ne_true, List.map_nil, List.append_nil]
theorem toL_take {l : List Dr} {k : Nat} (h : k < l.length) : toL (l.take (k + 1)) = if l[k].1 != 1 then toL (l.take k) ++ [l[k].2] else toL (l.take k) := by
  unfold toL
  rw [List.take_succ_eq_append_getElem h, List.filter_append, List.map_append]
  by_cases e : (l[k].1 != 1) = true
  · rw [if_pos e]
    simp only [List.filter_cons, e, if_true, List.filter_nil, List.map_cons, List.map_nil]
  · rw [if_neg e]
    have e' := Bool.eq_false_iff.2 e
    simp only [List.filter_cons, e', List.filter_nil]
    rw [if_neg Bool.false_ne_true, List.map_nil, List.append_nil]
theorem okL_bad {l : List Dr} {k : Nat} (h : k < l.length) (hb : (l[k].1 == 0 || l[k].1 == 1 || l[k].1 == 2) = false) : okL l = false := by
  cases ho : okL l
  · rfl
  · have := List.all_eq_true.1 ho l[k] (List.getElem_mem h)
    rw [hb] at this
    cases this
theorem frL_len (l : List Dr) : (frL l).length ≤ l.length := by unfold frL; rw [List.length_map]; exact List.length_filter_le _ _
theorem toL_len (l : List Dr) : (toL l).length ≤ l.length := by unfold toL; rw [List.length_map]; exact List.length_filter_le _ _
/-- Whether the rows tell of a, and what becomes of it. -/
def apR (a : Ln) (l : List Dr) : Bool := okL l && decide (frL l = a)
def apL (a : Ln) (l : List Dr) : Ln := if apR a l = true then toL l else []
def RetAp (a : Ln) (l : List Dr) (w : World) (e : Ending) (w' : World) : Prop := ∃ v, e = .returned (.tuple #[v, .bool (apR a l)]) ∧ RdS w' v (apL a l) ∧ Below w.heap.size w w'
set_option maxRecDepth 100000 in
set_option maxHeartbeats 1000000 in
theorem dapply_any (va vl : Value) (a : Ln) (L : List Dr) (w : World) (ha : RdS w va a) (hv : RdDr w vl L) (hl : L.length ≤ 1000) (hal : a.length ≤ 1000) :
    Calls Try.prog 63 #[va, vl] w (RetAp a L w) := by
  have HA := Kp.mk ha
  have HV := Kp.mk hv
  have HR := Kp.mk (show apR a L = (okL L && decide (frL L = a)) from rfl)
  have HAL := Kp.mk (show apL a L = if apR a L = true then toL L else [] from rfl)
  unfold RetAp
  generalize apR a L = R at *
  generalize apL a L = AL at *
  obtain ⟨av, acv, rfl⟩ := rddr_form hv
  have HI0 := Kp.mk (show Two51 [] [] (.slice none 0 0) (.slice none 0 0) w w from ⟨World.ownsRow_nil _ _ _ _, World.ownsRow_nil _ _ _ _, fun g h => (by cases h), Below.refl _ _⟩)
  generalize hn : L.length = n at *
  have HN := Kp.mk hn
  clear hn ha hv
  go_enter Try.func63, Try.ntmps63
  go_wp2_with fail
  go_loopw [6, 7, 12] (fun fv tv i wr => ∃ k : Nat, k ≤ n ∧ i = .int .i64 k ∧ okL (L.take k) = true ∧ Two51 (frL (L.take k)) (toL (L.take k)) fv tv w wr) (fun _ _ i _ => n - (intOf i).toNat)
  case atStart => exact ⟨0, Nat.zero_le _, rfl, by rw [List.take_zero]; rfl, by rw [List.take_zero]; exact HI0.out⟩
  case round =>
    obtain ⟨k, hk, rfl, hok, hT⟩ := hrel
    have HOK := Kp.mk hok
    have HI := Kp.mk hT
    clear hok hT HI0
    have hfl : (frL (L.take k)).length ≤ 1000 := by have := frL_len (L.take k); rw [List.length_take] at this; omega
    have htl : (toL (L.take k)).length ≤ 1000 := by have := toL_len (L.take k); rw [List.length_take] at this; omega
    by_cases hlt : k < n
    · have hkl : k < L.length := by have := HN.out; omega
      obtain ⟨g, o, rfl, hg, d⟩ := rddr_cells (HV.out.below HI.out.bl) (by omega)
      obtain ⟨c1, c2⟩ := d k hkl
      have E1 := Kp.mk (okL_take hkl)
      have E2 := Kp.mk (frL_take hkl)
      have E3 := Kp.mk (toL_take hkl)
      have E4 := Kp.mk (okL_bad hkl)
      have q1 : (k : Int) < (n : Int) := by omega
      clear d
      generalize L[k] = p at *
      obtain ⟨s, t⟩ := p
      dsimp only at c1 c2 E1 E2 E3 E4
      clear hkl
      generalize frL (L.take k) = F at *
      generalize toL (L.take k) = T at *
      have hA := (Below.refl wr.heap.size wr).alloc (Nat.le_refl _) (.cells #[.int .i64 s, .string t] 99)
      have HJ := Kp.mk (HI.out.below hA)
      have hbx := heap_alloc_new wr (.cells #[.int .i64 s, .string t] 99)
      have b0 := blk_cell (i := 0) hbx rfl
      have b1 := blk_cell (i := 1) hbx rfl
      have HBX := Kp.mk hbx
      have HF := Kp.mk HJ.out.f
      have HT := Kp.mk HJ.out.t
      have hlenF : (F.length + 1) * 16 ≤ 140737488355328 := by omega
      have hmxF : F.length + 1 ≤ maxLen := by unfold maxLen; omega
      have hlenT : (T.length + 1) * 16 ≤ 140737488355328 := by omega
      have hmxT : T.length + 1 ≤ maxLen := by unfold maxLen; omega
      have hszF := HJ.out.bl.size
      have hszT := HJ.out.bl.size
      have hnb : (Value.ownBlock u6 ≠ some wr.heap.size) := fun e => by have := (HI.out.f.lt _ e).2; omega
      have HNB := Kp.mk hnb
      obtain ⟨fa, fc, rfl⟩ := own_lenH HF.out
      obtain ⟨ta, tc, rfl⟩ := own_lenH HT.out
      clear hA hbx hnb
      by_cases s0 : s = 0
      · subst s0
        have E1a := Kp.mk (show okL (L.take (k + 1)) = true by rw [E1.out, HOK.out]; rfl)
        have E2a := Kp.mk (show frL (L.take (k + 1)) = F ++ [t] from E2.out.trans (if_pos rfl))
        have E3a := Kp.mk (show toL (L.take (k + 1)) = T ++ [t] from E3.out.trans (if_pos rfl))
        clear E1 E2 E3 E4
        go_upto_region 10 with (at_builtin; refine app_any rfl _ _ _ _ rfl Try.underlying84 _ _ _ Try.infoSH rfl (by omega) w.heap.size _ _ _ rfl HF.out #[.string t] rfl (fun u hu => by simp at hu; subst hu; rfl) (wr.heap.size + 1) (by simp) rfl hlenF hmxF hszF ?_; intro g' cap' w' h1 h2 h3; have G1 := Kp.mk h1; have G2 := Kp.mk h2; have G3 := Kp.mk h3; have HX1 := Kp.mk (HJ.out.first h1 h2 rfl h3); have hb9 := (h2.block wr.heap.size (by simp; omega) (fun e => HNB.out e.symm)).trans (blk_alloc HBX.out); have b0' := blk_cell (i := 0) hb9 rfl; have b1' := blk_cell (i := 1) hb9 rfl; clear h1 h2 h3 hb9 b0 b1)
        have HT2 := Kp.mk HX1.out.t
        have hszT2 := HX1.out.bl.size
        go_wp2_with (at_builtin; refine app_any rfl _ _ _ _ rfl Try.underlying84 _ _ _ Try.infoSH rfl (by omega) w.heap.size _ _ _ rfl HT2.out #[.string t] rfl (fun u hu => by simp at hu; subst hu; rfl) _ rfl rfl hlenT hmxT hszT2 ?_; intro g' cap' w' h1 h2 h3; have G1 := Kp.mk h1; have G2 := Kp.mk h2; have G3 := Kp.mk h3; clear h1 h2 h3)
        have HX := Kp.mk (HX1.out.second G1.out G2.out rfl G3.out)
        go_wp2_with fail
        go_roundw
        case rel => exact ⟨k + 1, by omega, by go_num, E1a.out, by rw [E2a.out, E3a.out]; exact HX.out⟩
        case measure => simp [intOf] <;> omega
      · by_cases s1 : s = 1
        · subst s1
          have E1a := Kp.mk (show okL (L.take (k + 1)) = true by rw [E1.out, HOK.out]; rfl)
          have E2a := Kp.mk (show frL (L.take (k + 1)) = F ++ [t] from E2.out.trans (if_pos rfl))
          have E3a := Kp.mk (show toL (L.take (k + 1)) = T from E3.out.trans (if_neg (by decide)))
          clear E1 E2 E3 E4
          go_wp2_with (at_builtin; refine app_any rfl _ _ _ _ rfl Try.underlying84 _ _ _ Try.infoSH rfl (by omega) w.heap.size _ _ _ rfl HF.out #[.string t] rfl (fun u hu => by simp at hu; subst hu; rfl) (wr.heap.size + 1) (by simp) rfl hlenF hmxF hszF ?_; intro g' cap' w' h1 h2 h3; have HX1 := Kp.mk (HJ.out.first h1 h2 rfl h3); have hb9 := (h2.block wr.heap.size (by simp; omega) (fun e => HNB.out e.symm)).trans (blk_alloc HBX.out); have b0' := blk_cell (i := 0) hb9 rfl; have b1' := blk_cell (i := 1) hb9 rfl; clear h1 h2 h3 hb9 b0 b1)
          have HX := Kp.mk HX1.out
          go_wp2_with fail
          go_roundw
          case rel => exact ⟨k + 1, by omega, by go_num, E1a.out, by rw [E2a.out, E3a.out]; exact HX.out⟩
          case measure => simp [intOf] <;> omega
        · by_cases s2 : s = 2
          · subst s2
            have E1a := Kp.mk (show okL (L.take (k + 1)) = true by rw [E1.out, HOK.out]; rfl)
            have E2a := Kp.mk (show frL (L.take (k + 1)) = F from E2.out.trans (if_neg (by decide)))
            have E3a := Kp.mk (show toL (L.take (k + 1)) = T ++ [t] from E3.out.trans (if_pos rfl))
            clear E1 E2 E3 E4
            go_wp2_with (at_builtin; refine app_any rfl _ _ _ _ rfl Try.underlying84 _ _ _ Try.infoSH rfl (by omega) w.heap.size _ _ _ rfl HT.out #[.string t] rfl (fun u hu => by simp at hu; subst hu; rfl) (wr.heap.size + 1) (by simp) rfl hlenT hmxT hszT ?_; intro g' cap' w' h1 h2 h3; have G1 := Kp.mk h1; have G2 := Kp.mk h2; have G3 := Kp.mk h3; clear h1 h2 h3)
            have HX := Kp.mk (HJ.out.second G1.out G2.out rfl G3.out)
            go_wp2_with fail
            go_roundw
            case rel => exact ⟨k + 1, by omega, by go_num, E1a.out, by rw [E2a.out, E3a.out]; exact HX.out⟩
            case measure => simp [intOf] <;> omega
          · have hbad : (s == 0 || s == 1 || s == 2) = false := by simp [s0, s1, s2]
            have E4a := Kp.mk (E4.out hbad)
            have n0 : (s != 0) = true := by simp [s0]
            have n1 : (s != 1) = true := by simp [s1]
            have n2 : (s != 2) = true := by simp [s2]
            have hR : R = false := by rw [HR.out, E4a.out, Bool.false_and]
            subst hR
            clear E1 E2 E3 E4 E4a
            go_wp2_with fail
            go_ret2
            exact ⟨_, rfl, by rw [HAL.out]; exact RdL.nil (by unfold maxLen; omega), HJ.out.bl⟩
    · have hkn : k = n := by omega
      subst hkn
      have HTK := Kp.mk (show L.take k = L from List.take_of_length_le (by have := HN.out; omega))
      rw [HTK.out] at HOK HI hfl htl
      have HFE := Kp.mk (dseq_any _ _ (frL L) a _ (rds_own HI.out.f) (HA.out.below HI.out.bl) (by omega) (by omega))
      have HRR := Kp.mk (show R = sameL (frL L) a by rw [HR.out, HOK.out, Bool.true_and]; rfl)
      obtain ⟨fa, fc, rfl⟩ := own_lenH HI.out.f
      generalize frL L = F at *
      generalize sameL F a = S at *
      have hRS := HRR.out
      subst hRS
      clear HRR
      cases R
      · go_wp2_with fail
        refine HFE.out.mono ?_
        rintro e w2 ⟨rfl, hb2⟩
        go_wp2_with fail
        go_ret2
        exact ⟨_, rfl, by rw [HAL.out]; exact RdL.nil (by unfold maxLen; omega), HI.out.bl.trans (hb2.mono HI.out.bl.size)⟩
      · go_wp2_with fail
        refine HFE.out.mono ?_
        rintro e w2 ⟨rfl, hb2⟩
        have HB2 := Kp.mk hb2
        clear hb2
        go_wp2_with fail
        go_ret2
        exact ⟨_, rfl, by rw [HAL.out]; exact rds_own (HI.out.below HB2.out).t, (HI.out.below HB2.out).bl⟩
end Go.Proofs.Ytnpolkpofaamlaa
