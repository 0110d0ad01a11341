/- Heads in one form (layer 50): gathered (bin/mkcac.py). -/
import Derived.Test.YtocnecbhpofdgaaCab
namespace Go.Proofs.Ytocnecbhpofdgaa
open Go.RowKit
set_option linter.unusedVariables false
set_option linter.unusedSimpArgs false

theorem gr_blk {B : Nat} {G : List Grp} {gv : Value} {vs : List Value} {w : World} (h : GR B G gv vs w) (h0 : 0 < G.length) : ∃ gg cap cur, gv = .slice (some ⟨gg, 0, none⟩) G.length cap ∧ B ≤ gg ∧ w.heap[gg]? = some (.cells cur 22 (0, 0)) ∧ ∀ (j : Nat) (v : Value), vs[j]? = some v → cur[j]? = some v := by
  rcases h.row.2 with ⟨e1, e2⟩ | ⟨gg, cap, cur, e1, e2, e3, e4, e5, e6, e7⟩
  · omega
  · refine ⟨gg, cap, cur, e1, e2, e3, fun j v hv => ?_⟩
    have hj : j < vs.length := (List.getElem?_eq_some_iff.1 hv).1
    have e8 := congrArg (fun l => l[j]?) e7
    simp only [List.getElem?_take, Array.getElem?_toList] at e8
    rw [if_pos (by rw [h.len] at hj; omega)] at e8
    exact e8.trans hv
theorem gr_blk2 {B gg nn cap : Nat} {G : List Grp} {vs : List Value} {w : World} (h : GR B G (.slice (some ⟨gg, 0, none⟩) nn cap) vs w) : ∃ cur, B ≤ gg ∧ w.heap[gg]? = some (.cells cur 22 (0, 0)) ∧ ∀ (j : Nat) (v : Value), vs[j]? = some v → cur[j]? = some v := by
  rcases h.row.2 with ⟨e1, e2⟩ | ⟨g2, c2, cur, e1, e2, e3, e4, e5, e6, e7⟩
  · cases e1
  · cases e1
    refine ⟨cur, e2, e3, fun j v hv => ?_⟩
    have hj : j < vs.length := (List.getElem?_eq_some_iff.1 hv).1
    have e8 := congrArg (fun l => l[j]?) e7
    simp only [List.getElem?_take, Array.getElem?_toList] at e8
    rw [if_pos (by rw [h.len] at hj; omega)] at e8
    exact e8.trans hv
theorem Try.infoGR : (Try.prog.info? 22).map (fun i => (i.zero, i.size, i.bytes)) = some (some (.slice none 0 0), 1, 24) := by kernel_rfl
theorem cell_other {w : World} {g o g2 o2 : Nat} {v : Value} (h : g ≠ g2) : (w.setCell ⟨g, o, none⟩ v).cell? ⟨g2, o2, none⟩ = w.cell? ⟨g2, o2, none⟩ := World.cell?_of_block (Below.heap_setCell _ _ _ _ (fun e => h e.symm))
theorem gMod_mem {G : List Grp} {i : Nat} {f : Fld} {n : Nat} (h : ∀ p ∈ G, p.2.length ≤ n) : ∀ p ∈ gMod G i f, p.2.length ≤ n + 1 := by
  intro p hp
  obtain ⟨j, hj⟩ := List.mem_iff_getElem?.1 hp
  unfold gMod at hj
  rw [List.getElem?_modify] at hj
  obtain ⟨q, hq, rfl⟩ := Option.map_eq_some_iff.1 hj
  have := h q (List.mem_of_getElem? hq)
  split
  · simp; omega
  · omega
theorem gPut_len (G : List Grp) (f : Fld) : (gPut G f).length ≤ G.length + 1 := by
  unfold gPut
  split
  · rw [gMod_len]; omega
  · rw [gMod_len]; simp
theorem gAll_len : ∀ l : List Fld, (gAll l).length ≤ l.length := by
  intro l
  induction h : l.length generalizing l with
  | zero => rw [List.eq_nil_of_length_eq_zero h]; exact Nat.le_refl _
  | succ n ih =>
    obtain ⟨l', f, rfl⟩ : ∃ l' f, l = l' ++ [f] := ⟨l.dropLast, l.getLast (fun e => by rw [e] at h; cases h), (List.dropLast_concat_getLast _).symm⟩
    have hl : l'.length = n := by simp at h; omega
    rw [gAll_snoc]
    have h1 := gPut_len (gAll l') f
    have h2 := ih l' hl
    omega
theorem gAll_mem : ∀ (n : Nat) (l : List Fld), l.length = n → ∀ p ∈ gAll l, p.2.length ≤ n := by
  intro n
  induction n with
  | zero =>
    intro l h p hp
    rw [List.eq_nil_of_length_eq_zero h] at hp
    cases hp
  | succ n ih =>
    intro l h
    obtain ⟨l', f, rfl⟩ : ∃ l' f, l = l' ++ [f] := ⟨l.dropLast, l.getLast (fun e => by rw [e] at h; cases h), (List.dropLast_concat_getLast _).symm⟩
    have hl : l'.length = n := by simp at h; omega
    rw [gAll_snoc]
    unfold gPut
    split
    · exact gMod_mem (ih l' hl)
    · refine gMod_mem fun p hp => ?_
      rcases List.mem_append.1 hp with h9 | h9
      · exact ih l' hl p h9
      · rw [List.mem_singleton] at h9; subst h9; exact Nat.zero_le _
/-- What holds at each field. -/
structure GI (l : List Fld) (k : Nat) (gv : Value) (vs : List Value) (w wr : World) : Prop where
  g : GR (w.heap.size + 1) (gAll (l.take k)) gv vs wr
  m : ∃ D, wr.ownsMap (H := Unit) Try.prog 9 (plainElem Try.prog 3) w.heap.size k D ∧ FS D (gIx (gAll (l.take k)))
  bl : Below w.heap.size w wr
def GatC (l : List Fld) (w : World) (e : Ending) (w' : World) : Prop := ∃ gv vs, e = .returned gv ∧ GR (w.heap.size + 1) (gAll l) gv vs w' ∧ Below w.heap.size w w'
theorem own_blkS {w w' : World} {m n : Nat} {D : DataW Unit} (h : w.ownsMap (H := Unit) Try.prog 9 (plainElem Try.prog 3) m n D) (hk : w'.heap[m]? = w.heap[m]?) : w'.ownsMap (H := Unit) Try.prog 9 (plainElem Try.prog 3) m n D := by
  obtain ⟨es, clock, hb, rest⟩ := h
  exact ⟨es, clock, hk.trans hb, rest⟩
theorem wpList_lookS {ops : Array Oper} {rest : List Oper} {o : Oper} {a : Act} {Q : Exit → Act → World → Prop} (w : World) (hg : o.guard = none) (mo x : Operand) (hop : o.op = Op.lookup 69 mo x true) (m n : Nat) (D : DataW Unit) (F : ByteArray → Option Nat)
    (hm : a.eval mo = .map (some m)) (hown : w.ownsMap (H := Unit) Try.prog 9 (plainElem Try.prog 3) m n D) (hF : FS D F) (id : ByteArray) (hx : a.eval x = .string id) (hw : id.size ≤ maxLen) (v : Nat) (ok : Bool) (hv : (F id).getD 0 = v) (hok : (F id).isSome = ok)
    (hK : wpList Try.prog ops Q rest (a.put o.dst (.tuple #[.int .i64 (v : Nat), .bool ok])) w) : wpList Try.prog ops Q (o :: rest) a w := by
  obtain ⟨h1, h2⟩ := hF id hw
  refine wpList_lookup_own_ok_int w hg mo x 69 hop 9 3 .i64 Try.keyS Try.underlying69 Try.underlying3 (Try.zeroSI _) m n D hm hown _ _ hx (keyOf_str_mk Try.underlying9 id hw) (fun c hat hwc => ?_)
  rw [h2, hv] at hat
  rw [h1, hok]
  cases hat
  exact hK
set_option maxRecDepth 100000 in
set_option maxHeartbeats 1500000 in
theorem gath_any (v : Value) (l : List Fld) (w : World) (hv : RdF w v l) (hz : ∀ p ∈ l, FldSm p) (hl : l.length ≤ 100) :
    Calls Try.prog 43 #[v] w (GatC l w) := by
  have hmk : ∀ w : World, (Instr.makeMap 69 none).run Try.prog w = .ok (.map (some w.heap.size)) (w.alloc (.map #[] 0)) := fun w => by kernel_rfl
  have HV := Kp.mk hv
  have HZ := Kp.mk hz
  obtain ⟨av, acv, rfl, _, _, -⟩ := hv
  have hs1 : (w.alloc (.map #[] 0)).heap.size = w.heap.size + 1 := World.size_alloc _ _
  have HI0 := Kp.mk (show GI l 0 (.slice none 0 0) [] w (w.alloc (.map #[] 0)) from
    ⟨⟨World.ownsRow_nil _ _ _ _, rfl, fun i v h => (by simp at h), fun i j u v _ h => (by simp at h)⟩, ⟨_, World.ownsMap_made w Try.prog 9 (plainElem Try.prog 3), FS.start⟩, (Below.refl _ _).alloc (Nat.le_refl _) _⟩)
  generalize hn : l.length = n at *
  have HN := Kp.mk hn
  clear hn hz hs1
  go_enter Try.func43, Try.ntmps43
  go_wp2_with fail
  go_loopw [4, 13] (fun gv i wr => ∃ (k : Nat) (vs : List Value), k ≤ n ∧ i = .int .i64 k ∧ GI l k gv vs w wr) (fun _ i _ => n - (intOf i).toNat)
  case atStart => exact ⟨0, [], Nat.zero_le _, rfl, HI0.out⟩
  case round =>
    obtain ⟨k, vs, hk, rfl, hI⟩ := hrel
    have HI := Kp.mk hI
    clear hI HI0 hmk
    by_cases hlt : k < n
    · have hkl : k < l.length := by have := HN.out; omega
      obtain ⟨g0, o0, rfl, hg0, d⟩ := rdf_cells (HV.out.below HI.out.bl) (by omega)
      obtain ⟨c1, c2⟩ := d k hkl
      have HSM := Kp.mk (HZ.out _ (List.getElem_mem hkl))
      have HTK := Kp.mk (show gAll (l.take (k + 1)) = gPut (gAll (l.take k)) l[k] by rw [List.take_succ_eq_append_getElem hkl, gAll_snoc])
      have HPL0 := Kp.mk (gAll_mem _ (l.take k) rfl)
      have HGL := Kp.mk (show (gAll (l.take k)).length ≤ k by have := gAll_len (l.take k); rw [List.length_take] at this; omega)
      have HKL := Kp.mk (show (l.take k).length ≤ 100 by rw [List.length_take]; omega)
      have q1 : (k : Int) < (n : Int) := by omega
      clear d
      have HGA := Kp.mk HI.out.g
      obtain ⟨D, hm1, hm2⟩ := HI.out.m
      have HM1 := Kp.mk hm1
      have HM2 := Kp.mk hm2
      have HBL := Kp.mk HI.out.bl
      have HFIN0 := Kp.mk (fun gv vs wz (h1 : GR (w.heap.size + 1) (gAll (l.take (k + 1))) gv vs wz) h2 (h3 : Below w.heap.size w wz) => (GI.mk h1 h2 h3 : GI l (k + 1) gv vs w wz))
      generalize l[k] = f at *
      obtain ⟨a, b⟩ := f
      dsimp only at c1 c2
      clear hkl HI hm1 hm2
      generalize gAll (l.take k) = G0 at *
      have HLO := Kp.mk (fun w => oct_lower_any a w (by have := HSM.out.1; dsimp only at this; omega))
      have hxs : (lowB a).size ≤ maxLen := by rw [lowB_size]; have := HSM.out.1; dsimp only at this; unfold maxLen; omega
      have HXS := Kp.mk hxs
      have HPT := Kp.mk (show gPut G0 (a, b) = (match gIx G0 (lowB a) with | some i => gMod G0 i (a, b) | none => gMod (G0 ++ [(lowB a, [])]) G0.length (a, b)) from rfl)
      have HIM := Kp.mk (fun (G : List Grp) i (x : ByteArray) => gIx_mod G i (a, b) x)
      clear hxs
      generalize lowB a = x at *
      have hA := (Below.refl wr.heap.size wr).alloc (Nat.le_refl _) (.cells #[.string a, .string b] 64)
      have hbx := heap_alloc_new wr (.cells #[.string a, .string b] 64)
      have b0 := blk_cell (i := 0) hbx rfl
      have HBX := Kp.mk hbx
      have hszr := HBL.out.size
      have HVB0 := Kp.mk (show ∀ (i : Nat) (v : Value), vs[i]? = some v → v.ownBlock ≠ some wr.heap.size from fun i v hv e => by
        have hil : i < G0.length := by rw [← HGA.out.len]; exact (List.getElem?_eq_some_iff.1 hv).1
        have := ((HGA.out.each i v hv _ (List.getElem?_eq_getElem hil)).lt _ e).2
        omega)
      have HGB0 := Kp.mk (show u4.ownBlock ≠ some wr.heap.size from fun e => by have := (HGA.out.row.lt _ e).2; omega)
      obtain ⟨gva, gvc, hgv⟩ := own_lenH HGA.out.row
      subst hgv
      have hmlt : w.heap.size < wr.heap.size := HM1.out.lt
      clear hbx
      cases hix : gIx G0 x with
      | some i =>
        have HIX := Kp.mk hix
        have hiG0 := gIx_lt hix
        clear hix
        go_upto_region 7 with fail
        refine (HLO.out _).mono ?_
        rintro e W ⟨rfl, hbW⟩
        have HGW := Kp.mk ((HGA.out.below hA).below hbW)
        have HBW := Kp.mk ((HBL.out.trans (hA.mono hszr)).trans (hbW.mono (Nat.le_trans hszr hA.size)))
        have HMW := Kp.mk (own_blkS HM1.out ((hbW.block _ (by have := hA.size; omega)).trans (hA.block _ hmlt)))
        have HBXW := Kp.mk ((hbW.block _ (blk_lt HBX.out)).trans HBX.out)
        have HVB := Kp.mk HVB0.out
        have HPL := Kp.mk (fun p hp => Nat.le_trans (HPL0.out p hp) (Nat.le_trans HKL.out (by omega : 100 ≤ 1000)))
        have hiG : i < G0.length := hiG0
        have hszW : w.heap.size + 1 ≤ W.drew.heap.size := by have h1 := hbW.size; have h2 := hA.size; show w.heap.size + 1 ≤ W.heap.size; omega
        have HFIN := Kp.mk (fun gv vs' wz (hG : GR (w.heap.size + 1) (gMod G0 i (a, b)) gv vs' wz) (hb : Below (w.heap.size + 1) W wz) => HFIN0.out gv vs' wz (by rw [HTK.out, HPT.out, HIX.out]; exact hG)
          (by
            refine ⟨D, (own_blkS HMW.out (hb.block _ (Nat.lt_succ_self _))).mono (Nat.le_succ _), HM2.out.cong fun y => ?_⟩
            rw [HTK.out, HPT.out, HIX.out]
            exact (HIM.out G0 i y).symm) (HBW.out.trans (hb.mono (Nat.le_succ _))))
        clear hbW hA
        go_upto_region 12 with (at_lookup; refine wpList_lookS _ rfl _ _ rfl w.heap.size k D (gIx G0) rfl HMW.out HM2.out x rfl HXS.out i true (by rw [HIX.out]; rfl) (by rw [HIX.out]; rfl) ?_)
        obtain ⟨vi, hvi⟩ : ∃ vi, vs[i]? = some vi := ⟨_, List.getElem?_eq_getElem (by rw [HGW.out.len]; exact hiG)⟩
        obtain ⟨p, hp⟩ : ∃ p, G0[i]? = some p := ⟨_, List.getElem?_eq_getElem hiG⟩
        have hown := HGW.out.each i vi hvi p hp
        have hvb := HVB.out i vi hvi
        obtain ⟨ai, ci, rfl⟩ := own_lenH hown
        have HVS := Kp.mk hvi
        have HPG := Kp.mk hp
        have HVI := Kp.mk (show W.drew.ownsRow (w.heap.size + 1) 64 2 (.slice ai p.2.length ci) p.2.length (fvH p.2) from own_kC hown fun _ _ _ => rfl)
        have HBN := Kp.mk hvb
        obtain ⟨gg, gcap, gcur, hge, hggb, hgblk, hcur⟩ : ∃ gg cap cur, (.slice gva G0.length gvc : Value) = .slice (some ⟨gg, 0, none⟩) G0.length cap ∧ w.heap.size + 1 ≤ gg ∧ W.heap[gg]? = some (.cells cur 22 (0, 0)) ∧ ∀ (j : Nat) (v : Value), vs[j]? = some v → cur[j]? = some v := gr_blk HGW.out (by omega)
        cases hge
        have HGB := Kp.mk hgblk
        have HCI := Kp.mk (hcur i _ hvi)
        have HGN := Kp.mk (show (Value.slice ai p.2.length ci).ownBlock ≠ some gg from fun e => own_type_ne HGW.out.row hown (by decide) gg rfl e)
        have hggl := blk_lt hgblk
        have HGX := Kp.mk (show gg ≠ wr.heap.size from fun e => by
          subst e
          rw [HBXW.out] at hgblk
          cases hgblk)
        have HCA := Kp.mk (blk_cell (i := i) hgblk (hcur i _ hvi))
        have HCA2 := Kp.mk (show (W.alloc (.cells #[.string a, .string b] 64)).cell? ⟨gg, i, none⟩ = _ from blk_cell (i := i) ((Below.heap_alloc W _ gg hggl).trans hgblk) (hcur i _ hvi))
        have x0 := blk_cell (i := 0) HBXW.out rfl
        have x1 := blk_cell (i := 1) HBXW.out rfl
        have hbxW := blk_lt HBXW.out
        have HSA := Kp.mk (show (W.drew.alloc (.cells #[.string a, .string b] 64)).cell? ⟨wr.heap.size, 0, none⟩ = some (.string a) ∧ (W.drew.alloc (.cells #[.string a, .string b] 64)).cell? ⟨wr.heap.size, 1, none⟩ = some (.string b) from
          ⟨blk_cell (i := 0) ((Below.heap_alloc W.drew _ _ hbxW).trans HBXW.out) rfl, blk_cell (i := 1) ((Below.heap_alloc W.drew _ _ hbxW).trans HBXW.out) rfl⟩)
        have hpl : p.2.length ≤ 1000 := HPL.out p (List.mem_of_getElem? hp)
        have lenC : (p.2.length + 1) * 32 ≤ 140737488355328 := by omega
        have lenD : p.2.length + 1 ≤ maxLen := by unfold maxLen; omega
        have q8 : (0 : Int) ≤ (i : Int) := by omega
        have q9 : (i : Int) < (G0.length : Int) := by omega
        clear hvi hp hown hvb hgblk hcur hpl
        refine wp_region_held_drew (S := fun w' => w'.cell? ⟨wr.heap.size, 0, none⟩ = some (.string a) ∧ w'.cell? ⟨wr.heap.size, 1, none⟩ = some (.string b)) (by kernel_rfl) (⟨x0, x1⟩) (fun hHeld => ?_)
        refine wpAnyH_take (i := 0) (oi := ⟨some 36, .move (.tmp 4), _, _, _, none⟩) (v := ?_) rfl (by kernel_rfl) (by kernel_rfl) (by kernel_rfl) (fun _ _ _ h => h) (Or.inl ⟨by rfl, ?_⟩) (by assumption) ?_
        rotate_left
        · intro w hSw
          try dsimp only at hSw
          go_simp
          try with_reducible rfl
        try simp only [Act.put, List.setIfInBounds_toArray, List.set_cons_zero, List.set_cons_succ]
        refine wpAnyH_take (i := 1) (oi := ⟨some 37, .move (.tmp 8), _, _, _, none⟩) (v := ?_) rfl (by kernel_rfl) (by kernel_rfl) (by kernel_rfl) (fun _ _ _ h => h) (Or.inl ⟨by rfl, ?_⟩) (by assumption) ?_
        rotate_left
        · intro w hSw
          try dsimp only at hSw
          go_simp
          try with_reducible rfl
        try simp only [Act.put, List.setIfInBounds_toArray, List.set_cons_zero, List.set_cons_succ]
        refine wpAnyH_take (i := 2) (oi := ⟨some 38, .move (.tmp 4), _, _, _, none⟩) (v := ?_) rfl (by kernel_rfl) (by kernel_rfl) (by kernel_rfl) (fun _ _ _ h => h) (Or.inl ⟨by rfl, ?_⟩) (by assumption) ?_
        rotate_left
        · intro w hSw
          try dsimp only at hSw
          go_simp
          try with_reducible rfl
        try simp only [Act.put, List.setIfInBounds_toArray, List.set_cons_zero, List.set_cons_succ]
        refine wpAnyH_take (i := 3) (oi := ⟨some 39, .move (.tmp 8), _, _, _, none⟩) (v := ?_) rfl (by kernel_rfl) (by kernel_rfl) (by kernel_rfl) (fun _ _ _ h => h) (Or.inl ⟨by rfl, ?_⟩) (by assumption) ?_
        rotate_left
        · intro w hSw
          try dsimp only at hSw
          go_simp
          try with_reducible rfl
        try simp only [Act.put, List.setIfInBounds_toArray, List.set_cons_zero, List.set_cons_succ]
        refine wpAnyH_take (i := 4) (oi := ⟨some 40, .indexAddr 82 (.tmp 38) (.tmp 39), _, _, _, none⟩) (v := ?_) rfl (by kernel_rfl) (by kernel_rfl) (by kernel_rfl) (fun _ _ _ h => h) (Or.inl ⟨by rfl, ?_⟩) (by assumption) ?_
        rotate_left
        · intro w hSw
          try dsimp only at hSw
          go_simp
          try with_reducible rfl
        try simp only [Act.put, List.setIfInBounds_toArray, List.set_cons_zero, List.set_cons_succ]
        refine wpAnyH_take (i := 6) (oi := ⟨some 42, .load 64 (.tmp 6), _, _, _, none⟩) (v := ?_) rfl (by kernel_rfl) (by kernel_rfl) (by kernel_rfl) (fun _ _ _ h => h) (Or.inl ⟨by rfl, ?_⟩) (by assumption) ?_
        rotate_left
        · intro w hSw
          try dsimp only at hSw
          go_simp
          try with_reducible rfl
        try simp only [Act.put, List.setIfInBounds_toArray, List.set_cons_zero, List.set_cons_succ]
        refine wpAnyH_ready (rs := [5, 7]) (by kernel_rfl) (by simp) ?_
        refine AllReadyH.cons (o := ⟨some 41, .load 22 (.tmp 40), _, _, _, none⟩) rfl (fun K hK => ?_) (AllReadyH.cons (o := ⟨some 43, _, _, _, _, none⟩) rfl (fun K hK => ?_) AllReadyH.nil)
        · have cA := HCA.out
          go_simp
          refine hK.out _ _ (⟨x0, x1⟩) (fun hHeld2 => ?_)
          clear hK K
          try simp only [Act.put, List.setIfInBounds_toArray, List.set_cons_zero, List.set_cons_succ]
          refine wpAnyH_ready (rs := [7]) (by kernel_rfl) (by simp) ?_
          refine AllReadyH.cons (o := ⟨some 43, _, _, _, _, none⟩) rfl (fun K hK => ?_) AllReadyH.nil
          go_simp
          refine hK.out _ _ (HSA.out) (fun hHeld2 => ?_)
          clear hK K
          try simp only [Act.put, List.setIfInBounds_toArray, List.set_cons_zero, List.set_cons_succ]
          refine wpAnyH_ready (rs := [8]) (by kernel_rfl) (by simp) ?_
          refine AllReadyH.cons (o := ⟨some 44, _, _, _, _, none⟩) rfl (fun K hK => ?_) AllReadyH.nil
          apply oq_app_any (wr := W.drew) (e := 64) (cs := #[.string a, .string b]) (B := w.heap.size + 1) (v := .slice ai p.2.length ci) (hown := HVI.out) (H := W.heap.size) (hH := rfl) (hlen := lenC) (hm := lenD) (hB := hszW) (hi := Try.infoFH) (ht := Try.underlying22)
          all_goals (try (first | rfl | decide | (intro u hu; simp at hu; rcases hu with rfl | rfl <;> rfl)))
          intro g' cap' w2 h1 h2 h3
          have HPUT := Kp.mk ((HGW.out.keep (w' := W.drew) fun _ _ _ => rfl).put (f := (a, b)) HVS.out HPG.out h1 h2 rfl h3 (by decide))
          have hgb := (h2.block gg (by simp; omega) (fun e => HGN.out e.symm)).trans ((Below.heap_alloc W.drew _ gg (show gg < W.heap.size from hggl)).trans HGB.out)
          have HCG := Kp.mk (And.intro (blk_cell (i := i) hgb HCI.out) (blk_free (i := i) hgb))
          have hbb := (h2.block wr.heap.size (by simp; omega) (fun e => HBN.out e.symm)).trans ((Below.heap_alloc W.drew _ wr.heap.size (show wr.heap.size < W.heap.size from hbxW)).trans HBXW.out)
          have HSB := Kp.mk (show w2.cell? ⟨wr.heap.size, 0, none⟩ = some (.string a) ∧ w2.cell? ⟨wr.heap.size, 1, none⟩ = some (.string b) from ⟨blk_cell (i := 0) hbb rfl, blk_cell (i := 1) hbb rfl⟩)
          have HB2 := Kp.mk ((show Below (w.heap.size + 1) W W.drew from ⟨rfl, rfl, rfl, Nat.le_refl _, fun _ _ => rfl⟩).trans (grown_bel (w := W.drew) HVI.out hszW h2))
          have hbs := (blk_lt hbb)
          clear h1 h2 h3 hgb hbb
          refine hK.out _ _ (HSB.out) (fun hHeld2 => ?_)
          clear hK K
          try simp only [Act.put, List.setIfInBounds_toArray, List.set_cons_zero, List.set_cons_succ]
          refine wpAnyH_take (i := 9) (oi := ⟨some 45, .indexAddr 82 (.tmp 36) (.tmp 37), _, _, _, none⟩) (v := ?_) rfl (by kernel_rfl) (by kernel_rfl) (by kernel_rfl) (fun _ _ _ h => h) (Or.inl ⟨by rfl, ?_⟩) (by assumption) ?_
          rotate_left
          · intro w hSw
            try dsimp only at hSw
            go_simp
            try with_reducible rfl
          try simp only [Act.put, List.setIfInBounds_toArray, List.set_cons_zero, List.set_cons_succ]
          refine wpAnyH_ready (rs := [10]) (by kernel_rfl) (by simp) ?_
          refine AllReadyH.cons (o := ⟨none, _, _, _, _, none⟩) rfl (fun K hK => ?_) AllReadyH.nil
          have cg := HCG.out.1
          have fg := HCG.out.2
          have n1 : ¬ gg = wr.heap.size := HGX.out
          have n2 : ¬ wr.heap.size = gg := fun e => HGX.out e.symm
          go_simp
          refine hK.out _ _ (⟨(cell_other HGX.out).trans HSB.out.1, (cell_other HGX.out).trans HSB.out.2⟩) (fun hHeld2 => ?_)
          clear hK K
          try simp only [Act.put, List.setIfInBounds_toArray, List.set_cons_zero, List.set_cons_succ]
          refine wpAnyH_done (by kernel_rfl) ?_ _
          go_wp2_with fail
          go_roundw
          case rel => exact ⟨k + 1, _, by omega, by go_num, HFIN.out _ _ _ HPUT.out (HB2.out.setCell (p := ⟨gg, i, none⟩) hggb _)⟩
          case measure => simp [intOf] <;> omega
        · go_simp
          refine hK.out _ _ (HSA.out) (fun hHeld2 => ?_)
          clear hK K
          try simp only [Act.put, List.setIfInBounds_toArray, List.set_cons_zero, List.set_cons_succ]
          refine wpAnyH_ready (rs := [5]) (by kernel_rfl) (by simp) ?_
          refine AllReadyH.cons (o := ⟨some 41, .load 22 (.tmp 40), _, _, _, none⟩) rfl (fun K hK => ?_) AllReadyH.nil
          have cA := HCA2.out
          go_simp
          refine hK.out _ _ (HSA.out) (fun hHeld2 => ?_)
          clear hK K
          try simp only [Act.put, List.setIfInBounds_toArray, List.set_cons_zero, List.set_cons_succ]
          refine wpAnyH_ready (rs := [8]) (by kernel_rfl) (by simp) ?_
          refine AllReadyH.cons (o := ⟨some 44, _, _, _, _, none⟩) rfl (fun K hK => ?_) AllReadyH.nil
          apply oq_app_any (wr := W.drew) (e := 64) (cs := #[.string a, .string b]) (B := w.heap.size + 1) (v := .slice ai p.2.length ci) (hown := HVI.out) (H := W.heap.size) (hH := rfl) (hlen := lenC) (hm := lenD) (hB := hszW) (hi := Try.infoFH) (ht := Try.underlying22)
          all_goals (try (first | rfl | decide | (intro u hu; simp at hu; rcases hu with rfl | rfl <;> rfl)))
          intro g' cap' w2 h1 h2 h3
          have HPUT := Kp.mk ((HGW.out.keep (w' := W.drew) fun _ _ _ => rfl).put (f := (a, b)) HVS.out HPG.out h1 h2 rfl h3 (by decide))
          have hgb := (h2.block gg (by simp; omega) (fun e => HGN.out e.symm)).trans ((Below.heap_alloc W.drew _ gg (show gg < W.heap.size from hggl)).trans HGB.out)
          have HCG := Kp.mk (And.intro (blk_cell (i := i) hgb HCI.out) (blk_free (i := i) hgb))
          have hbb := (h2.block wr.heap.size (by simp; omega) (fun e => HBN.out e.symm)).trans ((Below.heap_alloc W.drew _ wr.heap.size (show wr.heap.size < W.heap.size from hbxW)).trans HBXW.out)
          have HSB := Kp.mk (show w2.cell? ⟨wr.heap.size, 0, none⟩ = some (.string a) ∧ w2.cell? ⟨wr.heap.size, 1, none⟩ = some (.string b) from ⟨blk_cell (i := 0) hbb rfl, blk_cell (i := 1) hbb rfl⟩)
          have HB2 := Kp.mk ((show Below (w.heap.size + 1) W W.drew from ⟨rfl, rfl, rfl, Nat.le_refl _, fun _ _ => rfl⟩).trans (grown_bel (w := W.drew) HVI.out hszW h2))
          have hbs := (blk_lt hbb)
          clear h1 h2 h3 hgb hbb
          refine hK.out _ _ (HSB.out) (fun hHeld2 => ?_)
          clear hK K
          try simp only [Act.put, List.setIfInBounds_toArray, List.set_cons_zero, List.set_cons_succ]
          refine wpAnyH_take (i := 9) (oi := ⟨some 45, .indexAddr 82 (.tmp 36) (.tmp 37), _, _, _, none⟩) (v := ?_) rfl (by kernel_rfl) (by kernel_rfl) (by kernel_rfl) (fun _ _ _ h => h) (Or.inl ⟨by rfl, ?_⟩) (by assumption) ?_
          rotate_left
          · intro w hSw
            try dsimp only at hSw
            go_simp
            try with_reducible rfl
          try simp only [Act.put, List.setIfInBounds_toArray, List.set_cons_zero, List.set_cons_succ]
          refine wpAnyH_ready (rs := [10]) (by kernel_rfl) (by simp) ?_
          refine AllReadyH.cons (o := ⟨none, _, _, _, _, none⟩) rfl (fun K hK => ?_) AllReadyH.nil
          have cg := HCG.out.1
          have fg := HCG.out.2
          have n1 : ¬ gg = wr.heap.size := HGX.out
          have n2 : ¬ wr.heap.size = gg := fun e => HGX.out e.symm
          go_simp
          refine hK.out _ _ (⟨(cell_other HGX.out).trans HSB.out.1, (cell_other HGX.out).trans HSB.out.2⟩) (fun hHeld2 => ?_)
          clear hK K
          try simp only [Act.put, List.setIfInBounds_toArray, List.set_cons_zero, List.set_cons_succ]
          refine wpAnyH_done (by kernel_rfl) ?_ _
          go_wp2_with fail
          go_roundw
          case rel => exact ⟨k + 1, _, by omega, by go_num, HFIN.out _ _ _ HPUT.out (HB2.out.setCell (p := ⟨gg, i, none⟩) hggb _)⟩
          case measure => simp [intOf] <;> omega
      | none =>
        have HIX := Kp.mk hix
        clear hix
        go_upto_region 7 with fail
        refine (HLO.out _).mono ?_
        rintro e V ⟨rfl, hbV⟩
        have HGV := Kp.mk ((HGA.out.below hA).below hbV)
        have HBV := Kp.mk ((HBL.out.trans (hA.mono hszr)).trans (hbV.mono (Nat.le_trans hszr hA.size)))
        have HMV := Kp.mk (own_blkS HM1.out ((hbV.block _ (by have := hA.size; omega)).trans (hA.block _ hmlt)))
        have HBXV := Kp.mk ((hbV.block _ (blk_lt HBX.out)).trans HBX.out)
        have hVs : wr.heap.size < V.heap.size := blk_lt HBXV.out
        have hkm : k < maxLen := by unfold maxLen; omega
        have hgl0 := HGL.out
        have hwfG : (Lit.int .i64 (G0.length : Nat)).wf = true := by simp [Lit.wf, IntKind.min, IntKind.max, IntKind.signed, IntKind.bits]; omega
        have hlen0 : (G0.length + 1) * 24 ≤ 140737488355328 := by omega
        have hmx0 : G0.length + 1 ≤ maxLen := by unfold maxLen; omega
        clear hbV hA
        go_upto_region 12 with (first
          | (at_lookup; refine wpList_lookS _ rfl _ _ rfl w.heap.size k D (gIx G0) rfl HMV.out HM2.out x rfl HXS.out 0 false (by rw [HIX.out]; rfl) (by rw [HIX.out]; rfl) ?_)
          | (at_mapUpdate; refine wpList_mapUpdate_own _ rfl _ _ _ 69 rfl 9 3 Try.keyS Try.underlying69 _ w.heap.size k D rfl HMV.out hkm _ _ _ rfl rfl (keyOf_str_mk Try.underlying9 x HXS.out) _ _ (plainElem_int Try.underlying3 hwfG) ?_; intro w1 ho1 hg1; have HO1 := Kp.mk ho1; have HG1 := Kp.mk hg1; have HGR1 := Kp.mk (HGV.out.keep fun j hB hj => hg1.block j hj (fun e => by injection e with e; omega)); have hB1 : w.heap.size + 1 ≤ w1.heap.size := (by have := hg1.size; omega); clear ho1 hg1)
          | (at_builtin; refine app_any rfl _ _ _ _ rfl Try.underlying82 _ _ _ Try.infoGR rfl (by omega) (w.heap.size + 1) _ _ _ rfl HGR1.out.row #[.slice none 0 0] rfl (fun u hu => by simp at hu; subst hu; rfl) _ rfl rfl hlen0 hmx0 hB1 ?_; intro gg gcap W h1 h2 h3; have H1 := Kp.mk h1; have H2 := Kp.mk h2; clear h1 h2 h3))
        have HGW := Kp.mk (HGR1.out.more (x := x) H1.out H2.out (by decide))
        have HBXW := Kp.mk ((H2.out.block wr.heap.size (by have := HG1.out.size; simp; omega) (fun e => HGB0.out e.symm)).trans ((Below.heap_alloc w1 _ wr.heap.size (by have := HG1.out.size; omega)).trans ((HG1.out.block wr.heap.size hVs (fun e => by injection e with e; omega)).trans HBXV.out)))
        have HGN0 := Kp.mk (fun e => (by have := (HGR1.out.row.lt _ e).1; omega : False) : (Value.slice gva G0.length gvc).ownBlock ≠ some w.heap.size)
        have HMW := Kp.mk (own_blkS HO1.out ((H2.out.block w.heap.size (by simp; omega) (fun e => HGN0.out e.symm)).trans (Below.heap_alloc w1 _ w.heap.size (by omega))))
        have HB2W := Kp.mk (show Below w.heap.size w1 W from ((Below.refl _ w1).alloc (by omega) (.cells #[.slice none 0 0] 22)).grown H2.out (by simp; omega) fun j hj => by have := (HGR1.out.row.lt _ hj).1; omega)
        have HB1V := Kp.mk (show Below w.heap.size V w1 from ⟨HG1.out.os, HG1.out.tape, HG1.out.output, HG1.out.size, fun j hj => HG1.out.block j (by omega) (fun e => by injection e with e; omega)⟩)
        have HBW := Kp.mk ((HBV.out.trans HB1V.out).trans HB2W.out)
        have HVB := Kp.mk (show ∀ (j : Nat) (v : Value), (vs ++ [Value.slice none 0 0])[j]? = some v → v.ownBlock ≠ some wr.heap.size from fun j v hv => by
          by_cases hj : j < vs.length
          · rw [List.getElem?_append_left hj] at hv
            exact HVB0.out j v hv
          · rw [List.getElem?_append_right (by omega)] at hv
            have := List.mem_of_getElem? hv
            rw [List.mem_singleton] at this
            subst this
            intro e
            cases e)
        have HPL := Kp.mk (show ∀ p ∈ G0 ++ [(x, [])], p.2.length ≤ 1000 from fun p hp => by
          rcases List.mem_append.1 hp with h | h
          · exact Nat.le_trans (HPL0.out p h) (Nat.le_trans HKL.out (by omega))
          · rw [List.mem_singleton] at h; subst h; exact Nat.zero_le _)
        have hiG : G0.length < (G0 ++ [(x, ([] : List Fld))]).length := by simp
        have hszW : w.heap.size + 1 ≤ W.drew.heap.size := by
          have h1 := blk_lt HBXW.out
          show w.heap.size + 1 ≤ W.heap.size
          omega
        have HFIN := Kp.mk (fun gv vs' wz (hG : GR (w.heap.size + 1) (gMod (G0 ++ [(x, [])]) G0.length (a, b)) gv vs' wz) (hb : Below (w.heap.size + 1) W wz) => HFIN0.out gv vs' wz (by rw [HTK.out, HPT.out, HIX.out]; exact hG)
          (by
            refine ⟨_, own_blkS HMW.out (hb.block _ (Nat.lt_succ_self _)), (HM2.out.put HMV.out.isMap x G0.length (isKeyS _) fun y => ?_)⟩
            rw [HTK.out, HPT.out, HIX.out]
            show gIx (gMod (G0 ++ [(x, [])]) G0.length (a, b)) y = _
            rw [HIM.out]
            exact gIx_app HIX.out y) (HBW.out.trans (hb.mono (Nat.le_succ _))))
        clear hlen0 hmx0 hkm hwfG hB1 hVs
        obtain ⟨vi, hvi⟩ : ∃ vi, (vs ++ [Value.slice none 0 0])[G0.length]? = some vi := ⟨_, List.getElem?_eq_getElem (by rw [HGW.out.len]; exact hiG)⟩
        obtain ⟨p, hp⟩ : ∃ p, (G0 ++ [(x, [])])[G0.length]? = some p := ⟨_, List.getElem?_eq_getElem hiG⟩
        have hown := HGW.out.each G0.length vi hvi p hp
        have hvb := HVB.out G0.length vi hvi
        obtain ⟨ai, ci, rfl⟩ := own_lenH hown
        have HVS := Kp.mk hvi
        have HPG := Kp.mk hp
        have HVI := Kp.mk (show W.drew.ownsRow (w.heap.size + 1) 64 2 (.slice ai p.2.length ci) p.2.length (fvH p.2) from own_kC hown fun _ _ _ => rfl)
        have HBN := Kp.mk hvb
        obtain ⟨gcur, hggb, hgblk, hcur⟩ := gr_blk2 HGW.out
        have HGB := Kp.mk hgblk
        have HCI := Kp.mk (hcur G0.length _ hvi)
        have HGN := Kp.mk (show (Value.slice ai p.2.length ci).ownBlock ≠ some gg from fun e => own_type_ne HGW.out.row hown (by decide) gg rfl e)
        have hggl := blk_lt hgblk
        have HGX := Kp.mk (show gg ≠ wr.heap.size from fun e => by
          subst e
          rw [HBXW.out] at hgblk
          cases hgblk)
        have HCA := Kp.mk (blk_cell (i := G0.length) hgblk (hcur G0.length _ hvi))
        have HCA2 := Kp.mk (show (W.alloc (.cells #[.string a, .string b] 64)).cell? ⟨gg, G0.length, none⟩ = _ from blk_cell (i := G0.length) ((Below.heap_alloc W _ gg hggl).trans hgblk) (hcur G0.length _ hvi))
        have x0 := blk_cell (i := 0) HBXW.out rfl
        have x1 := blk_cell (i := 1) HBXW.out rfl
        have hbxW := blk_lt HBXW.out
        have HSA := Kp.mk (show (W.drew.alloc (.cells #[.string a, .string b] 64)).cell? ⟨wr.heap.size, 0, none⟩ = some (.string a) ∧ (W.drew.alloc (.cells #[.string a, .string b] 64)).cell? ⟨wr.heap.size, 1, none⟩ = some (.string b) from
          ⟨blk_cell (i := 0) ((Below.heap_alloc W.drew _ _ hbxW).trans HBXW.out) rfl, blk_cell (i := 1) ((Below.heap_alloc W.drew _ _ hbxW).trans HBXW.out) rfl⟩)
        have hpl : p.2.length ≤ 1000 := HPL.out p (List.mem_of_getElem? hp)
        have lenC : (p.2.length + 1) * 32 ≤ 140737488355328 := by omega
        have lenD : p.2.length + 1 ≤ maxLen := by unfold maxLen; omega
        have q8 : (0 : Int) ≤ (G0.length : Int) := by omega
        have q9 : (G0.length : Int) < (G0.length : Int) + 1 := by omega
        clear hvi hp hown hvb hgblk hcur hpl
        refine wp_region_held_drew (S := fun w' => w'.cell? ⟨wr.heap.size, 0, none⟩ = some (.string a) ∧ w'.cell? ⟨wr.heap.size, 1, none⟩ = some (.string b)) (by kernel_rfl) (⟨x0, x1⟩) (fun hHeld => ?_)
        refine wpAnyH_take (i := 0) (oi := ⟨some 36, .move (.tmp 4), _, _, _, none⟩) (v := ?_) rfl (by kernel_rfl) (by kernel_rfl) (by kernel_rfl) (fun _ _ _ h => h) (Or.inl ⟨by rfl, ?_⟩) (by assumption) ?_
        rotate_left
        · intro w hSw
          try dsimp only at hSw
          go_simp
          try with_reducible rfl
        try simp only [Act.put, List.setIfInBounds_toArray, List.set_cons_zero, List.set_cons_succ]
        refine wpAnyH_take (i := 1) (oi := ⟨some 37, .move (.tmp 8), _, _, _, none⟩) (v := ?_) rfl (by kernel_rfl) (by kernel_rfl) (by kernel_rfl) (fun _ _ _ h => h) (Or.inl ⟨by rfl, ?_⟩) (by assumption) ?_
        rotate_left
        · intro w hSw
          try dsimp only at hSw
          go_simp
          try with_reducible rfl
        try simp only [Act.put, List.setIfInBounds_toArray, List.set_cons_zero, List.set_cons_succ]
        refine wpAnyH_take (i := 2) (oi := ⟨some 38, .move (.tmp 4), _, _, _, none⟩) (v := ?_) rfl (by kernel_rfl) (by kernel_rfl) (by kernel_rfl) (fun _ _ _ h => h) (Or.inl ⟨by rfl, ?_⟩) (by assumption) ?_
        rotate_left
        · intro w hSw
          try dsimp only at hSw
          go_simp
          try with_reducible rfl
        try simp only [Act.put, List.setIfInBounds_toArray, List.set_cons_zero, List.set_cons_succ]
        refine wpAnyH_take (i := 3) (oi := ⟨some 39, .move (.tmp 8), _, _, _, none⟩) (v := ?_) rfl (by kernel_rfl) (by kernel_rfl) (by kernel_rfl) (fun _ _ _ h => h) (Or.inl ⟨by rfl, ?_⟩) (by assumption) ?_
        rotate_left
        · intro w hSw
          try dsimp only at hSw
          go_simp
          try with_reducible rfl
        try simp only [Act.put, List.setIfInBounds_toArray, List.set_cons_zero, List.set_cons_succ]
        refine wpAnyH_take (i := 4) (oi := ⟨some 40, .indexAddr 82 (.tmp 38) (.tmp 39), _, _, _, none⟩) (v := ?_) rfl (by kernel_rfl) (by kernel_rfl) (by kernel_rfl) (fun _ _ _ h => h) (Or.inl ⟨by rfl, ?_⟩) (by assumption) ?_
        rotate_left
        · intro w hSw
          try dsimp only at hSw
          go_simp
          try with_reducible rfl
        try simp only [Act.put, List.setIfInBounds_toArray, List.set_cons_zero, List.set_cons_succ]
        refine wpAnyH_take (i := 6) (oi := ⟨some 42, .load 64 (.tmp 6), _, _, _, none⟩) (v := ?_) rfl (by kernel_rfl) (by kernel_rfl) (by kernel_rfl) (fun _ _ _ h => h) (Or.inl ⟨by rfl, ?_⟩) (by assumption) ?_
        rotate_left
        · intro w hSw
          try dsimp only at hSw
          go_simp
          try with_reducible rfl
        try simp only [Act.put, List.setIfInBounds_toArray, List.set_cons_zero, List.set_cons_succ]
        refine wpAnyH_ready (rs := [5, 7]) (by kernel_rfl) (by simp) ?_
        refine AllReadyH.cons (o := ⟨some 41, .load 22 (.tmp 40), _, _, _, none⟩) rfl (fun K hK => ?_) (AllReadyH.cons (o := ⟨some 43, _, _, _, _, none⟩) rfl (fun K hK => ?_) AllReadyH.nil)
        · have cA := HCA.out
          go_simp
          refine hK.out _ _ (⟨x0, x1⟩) (fun hHeld2 => ?_)
          clear hK K
          try simp only [Act.put, List.setIfInBounds_toArray, List.set_cons_zero, List.set_cons_succ]
          refine wpAnyH_ready (rs := [7]) (by kernel_rfl) (by simp) ?_
          refine AllReadyH.cons (o := ⟨some 43, _, _, _, _, none⟩) rfl (fun K hK => ?_) AllReadyH.nil
          go_simp
          refine hK.out _ _ (HSA.out) (fun hHeld2 => ?_)
          clear hK K
          try simp only [Act.put, List.setIfInBounds_toArray, List.set_cons_zero, List.set_cons_succ]
          refine wpAnyH_ready (rs := [8]) (by kernel_rfl) (by simp) ?_
          refine AllReadyH.cons (o := ⟨some 44, _, _, _, _, none⟩) rfl (fun K hK => ?_) AllReadyH.nil
          apply oq_app_any (wr := W.drew) (e := 64) (cs := #[.string a, .string b]) (B := w.heap.size + 1) (v := .slice ai p.2.length ci) (hown := HVI.out) (H := W.heap.size) (hH := rfl) (hlen := lenC) (hm := lenD) (hB := hszW) (hi := Try.infoFH) (ht := Try.underlying22)
          all_goals (try (first | rfl | decide | (intro u hu; simp at hu; rcases hu with rfl | rfl <;> rfl)))
          intro g' cap' w2 h1 h2 h3
          have HPUT := Kp.mk ((HGW.out.keep (w' := W.drew) fun _ _ _ => rfl).put (f := (a, b)) HVS.out HPG.out h1 h2 rfl h3 (by decide))
          have hgb := (h2.block gg (by simp; omega) (fun e => HGN.out e.symm)).trans ((Below.heap_alloc W.drew _ gg (show gg < W.heap.size from hggl)).trans HGB.out)
          have HCG := Kp.mk (And.intro (blk_cell (i := G0.length) hgb HCI.out) (blk_free (i := G0.length) hgb))
          have hbb := (h2.block wr.heap.size (by simp; omega) (fun e => HBN.out e.symm)).trans ((Below.heap_alloc W.drew _ wr.heap.size (show wr.heap.size < W.heap.size from hbxW)).trans HBXW.out)
          have HSB := Kp.mk (show w2.cell? ⟨wr.heap.size, 0, none⟩ = some (.string a) ∧ w2.cell? ⟨wr.heap.size, 1, none⟩ = some (.string b) from ⟨blk_cell (i := 0) hbb rfl, blk_cell (i := 1) hbb rfl⟩)
          have HB2 := Kp.mk ((show Below (w.heap.size + 1) W W.drew from ⟨rfl, rfl, rfl, Nat.le_refl _, fun _ _ => rfl⟩).trans (grown_bel (w := W.drew) HVI.out hszW h2))
          have hbs := (blk_lt hbb)
          clear h1 h2 h3 hgb hbb
          refine hK.out _ _ (HSB.out) (fun hHeld2 => ?_)
          clear hK K
          try simp only [Act.put, List.setIfInBounds_toArray, List.set_cons_zero, List.set_cons_succ]
          refine wpAnyH_take (i := 9) (oi := ⟨some 45, .indexAddr 82 (.tmp 36) (.tmp 37), _, _, _, none⟩) (v := ?_) rfl (by kernel_rfl) (by kernel_rfl) (by kernel_rfl) (fun _ _ _ h => h) (Or.inl ⟨by rfl, ?_⟩) (by assumption) ?_
          rotate_left
          · intro w hSw
            try dsimp only at hSw
            go_simp
            try with_reducible rfl
          try simp only [Act.put, List.setIfInBounds_toArray, List.set_cons_zero, List.set_cons_succ]
          refine wpAnyH_ready (rs := [10]) (by kernel_rfl) (by simp) ?_
          refine AllReadyH.cons (o := ⟨none, _, _, _, _, none⟩) rfl (fun K hK => ?_) AllReadyH.nil
          have cg := HCG.out.1
          have fg := HCG.out.2
          have n1 : ¬ gg = wr.heap.size := HGX.out
          have n2 : ¬ wr.heap.size = gg := fun e => HGX.out e.symm
          go_simp
          refine hK.out _ _ (⟨(cell_other HGX.out).trans HSB.out.1, (cell_other HGX.out).trans HSB.out.2⟩) (fun hHeld2 => ?_)
          clear hK K
          try simp only [Act.put, List.setIfInBounds_toArray, List.set_cons_zero, List.set_cons_succ]
          refine wpAnyH_done (by kernel_rfl) ?_ _
          go_wp2_with fail
          go_roundw
          case rel => exact ⟨k + 1, _, by omega, by go_num, HFIN.out _ _ _ HPUT.out (HB2.out.setCell (p := ⟨gg, G0.length, none⟩) hggb _)⟩
          case measure => simp [intOf] <;> omega
        · go_simp
          refine hK.out _ _ (HSA.out) (fun hHeld2 => ?_)
          clear hK K
          try simp only [Act.put, List.setIfInBounds_toArray, List.set_cons_zero, List.set_cons_succ]
          refine wpAnyH_ready (rs := [5]) (by kernel_rfl) (by simp) ?_
          refine AllReadyH.cons (o := ⟨some 41, .load 22 (.tmp 40), _, _, _, none⟩) rfl (fun K hK => ?_) AllReadyH.nil
          have cA := HCA2.out
          go_simp
          refine hK.out _ _ (HSA.out) (fun hHeld2 => ?_)
          clear hK K
          try simp only [Act.put, List.setIfInBounds_toArray, List.set_cons_zero, List.set_cons_succ]
          refine wpAnyH_ready (rs := [8]) (by kernel_rfl) (by simp) ?_
          refine AllReadyH.cons (o := ⟨some 44, _, _, _, _, none⟩) rfl (fun K hK => ?_) AllReadyH.nil
          apply oq_app_any (wr := W.drew) (e := 64) (cs := #[.string a, .string b]) (B := w.heap.size + 1) (v := .slice ai p.2.length ci) (hown := HVI.out) (H := W.heap.size) (hH := rfl) (hlen := lenC) (hm := lenD) (hB := hszW) (hi := Try.infoFH) (ht := Try.underlying22)
          all_goals (try (first | rfl | decide | (intro u hu; simp at hu; rcases hu with rfl | rfl <;> rfl)))
          intro g' cap' w2 h1 h2 h3
          have HPUT := Kp.mk ((HGW.out.keep (w' := W.drew) fun _ _ _ => rfl).put (f := (a, b)) HVS.out HPG.out h1 h2 rfl h3 (by decide))
          have hgb := (h2.block gg (by simp; omega) (fun e => HGN.out e.symm)).trans ((Below.heap_alloc W.drew _ gg (show gg < W.heap.size from hggl)).trans HGB.out)
          have HCG := Kp.mk (And.intro (blk_cell (i := G0.length) hgb HCI.out) (blk_free (i := G0.length) hgb))
          have hbb := (h2.block wr.heap.size (by simp; omega) (fun e => HBN.out e.symm)).trans ((Below.heap_alloc W.drew _ wr.heap.size (show wr.heap.size < W.heap.size from hbxW)).trans HBXW.out)
          have HSB := Kp.mk (show w2.cell? ⟨wr.heap.size, 0, none⟩ = some (.string a) ∧ w2.cell? ⟨wr.heap.size, 1, none⟩ = some (.string b) from ⟨blk_cell (i := 0) hbb rfl, blk_cell (i := 1) hbb rfl⟩)
          have HB2 := Kp.mk ((show Below (w.heap.size + 1) W W.drew from ⟨rfl, rfl, rfl, Nat.le_refl _, fun _ _ => rfl⟩).trans (grown_bel (w := W.drew) HVI.out hszW h2))
          have hbs := (blk_lt hbb)
          clear h1 h2 h3 hgb hbb
          refine hK.out _ _ (HSB.out) (fun hHeld2 => ?_)
          clear hK K
          try simp only [Act.put, List.setIfInBounds_toArray, List.set_cons_zero, List.set_cons_succ]
          refine wpAnyH_take (i := 9) (oi := ⟨some 45, .indexAddr 82 (.tmp 36) (.tmp 37), _, _, _, none⟩) (v := ?_) rfl (by kernel_rfl) (by kernel_rfl) (by kernel_rfl) (fun _ _ _ h => h) (Or.inl ⟨by rfl, ?_⟩) (by assumption) ?_
          rotate_left
          · intro w hSw
            try dsimp only at hSw
            go_simp
            try with_reducible rfl
          try simp only [Act.put, List.setIfInBounds_toArray, List.set_cons_zero, List.set_cons_succ]
          refine wpAnyH_ready (rs := [10]) (by kernel_rfl) (by simp) ?_
          refine AllReadyH.cons (o := ⟨none, _, _, _, _, none⟩) rfl (fun K hK => ?_) AllReadyH.nil
          have cg := HCG.out.1
          have fg := HCG.out.2
          have n1 : ¬ gg = wr.heap.size := HGX.out
          have n2 : ¬ wr.heap.size = gg := fun e => HGX.out e.symm
          go_simp
          refine hK.out _ _ (⟨(cell_other HGX.out).trans HSB.out.1, (cell_other HGX.out).trans HSB.out.2⟩) (fun hHeld2 => ?_)
          clear hK K
          try simp only [Act.put, List.setIfInBounds_toArray, List.set_cons_zero, List.set_cons_succ]
          refine wpAnyH_done (by kernel_rfl) ?_ _
          go_wp2_with fail
          go_roundw
          case rel => exact ⟨k + 1, _, by omega, by go_num, HFIN.out _ _ _ HPUT.out (HB2.out.setCell (p := ⟨gg, G0.length, none⟩) hggb _)⟩
          case measure => simp [intOf] <;> omega
    · have hkn : k = n := by omega
      subst hkn
      have HTK := Kp.mk (show l.take k = l from List.take_of_length_le (by have := HN.out; omega))
      have HG := Kp.mk HI.out.g
      rw [HTK.out] at HG
      go_wp2_with fail
      go_ret
      exact ⟨_, vs, rfl, HG.out, HI.out.bl⟩
end Go.Proofs.Ytocnecbhpofdgaa
