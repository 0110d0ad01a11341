/- Who is due (layer 41): Tick: the time goes on, who is due is collected from the map, sorted, and deleted. -/
import Derived.Test.YtpgnekejemockaaCkh
import Derived.Deep.Cut
namespace Go.Proofs.Ytpgnekejemockaa
open Go.RowKit Go.Shelf Go.Lib Go.Sort
set_option linter.unusedVariables false
set_option linter.unusedSimpArgs false

theorem own_kk {w w' : World} {B : Nat} {e : TypeId} {sz n : Nat} {v : Value} {xs : List Value} {Fp : Nat → Prop} (h : w.ownsRow B e sz v n xs) (hk : Kpt Fp w w') (hF : ∀ k, B ≤ k → Fp k) : w'.ownsRow B e sz v n xs := by
  refine ⟨h.1, ?_⟩
  rcases h.2 with h1 | ⟨g, cap, cur, h1, h2, h3, rest⟩
  · exact .inl h1
  · refine .inr ⟨g, cap, cur, h1, h2, (hk.block _ (blk_lt h3) (hF _ ?_)).trans h3, rest⟩
    subst h1
    exact (h.lt g rfl).1
theorem csortL (b m n k : Nat) (now : Int) (F : Int → Option Int) (w : World) (B : Nat) (v : Value) (l : List Int) (h : CK b m n now F w) (hk : w.heap[k]? = some (.cells #[.pointer (some ⟨b, 0, none⟩)] 23 (0, 0))) (nb : b < B) (nm : m < B) (nk : k < B)
    (ho : w.ownsRow B 3 1 v l.length (inL l)) (hl : l.length ≤ 1000) (hw : ∀ x ∈ l, (Lit.int .i64 x).wf = true) :
    Calls Try.prog 38 #[v, .func (.func 39) #[] #[.pointer (some ⟨k, 0, none⟩)]] w fun e w' =>
      e = .returned (.tuple #[]) ∧ ∃ l', l'.Perm l ∧ (l.Nodup → l'.Pairwise (ltW F)) ∧ w'.ownsRow B 3 1 v l.length (inL l') ∧ Kpt (fun j => j < B) w w' := by
  obtain ⟨a, c, rfl⟩ := own_lenH ho
  rcases Nat.eq_zero_or_pos l.length with h0 | h0
  · have e0 := List.eq_nil_of_length_eq_zero h0
    subst e0
    refine (csort_none a c _ w).mono ?_
    rintro e w' ⟨rfl, rfl⟩
    exact ⟨rfl, [], List.Perm.refl _, fun _ => List.Pairwise.nil, ho, Kpt.refl _ _⟩
  · have hf : ∃ g, a = some ⟨g, 0, none⟩ := by
      rcases ho.2 with ⟨h, h9⟩ | ⟨g, cap, cur, h, _⟩
      · omega
      · cases h
        exact ⟨g, rfl⟩
    obtain ⟨g, rfl⟩ := hf
    have hg := ho.lt g rfl
    have ed : (toW l hw).toArray.size = l.length := by simp [toW]
    have ei : wiL (toW l hw).toArray = inL l := by
      have e7 : wiL (toW l hw).toArray = ((toW l hw).map (·.1)).map (fun x => Value.int .i64 x) := by
        unfold wiL
        rw [List.map_map]
        rfl
      rw [e7, toW_val]
      rfl
    have ho2 : w.ownsRow B 3 1 (.slice (some ⟨g, 0, none⟩) (toW l hw).toArray.size c) (toW l hw).toArray.size (wiL (toW l hw).toArray) := by rw [ed, ei]; exact ho
    have hs := csort_any b m n k now F w g c (toW l hw).toArray h hk (by omega) (by omega) (by omega) (own_holds ho2) hg.2 (by rw [ed]; exact hl)
    rw [ed] at hs
    refine hs.mono ?_
    rintro e w' ⟨rfl, q, os, rfl⟩
    refine ⟨rfl, (srt F (toW l hw)).map (·.1), ?_, ?_, ?_, (sortW_kpt _ _ _ _ _ _ _).mono fun j hj => by omega⟩
    · have := (srt_perm F (toW l hw)).map (·.1)
      rw [toW_val] at this
      exact this
    · intro hn
      exact srt_ord (by rw [toW_val]; exact hn)
    · have h9 := holds_own (n := q) (os := os) (d' := (srt F (toW l hw)).toArray) ho2 (by simp [srt])
      rw [ed] at h9
      have e8 : wiL (srt F (toW l hw)).toArray = inL ((srt F (toW l hw)).map (·.1)) := by
        unfold wiL inL
        rw [List.map_map]
        rfl
      rw [e8] at h9
      exact h9
theorem size_le41 {w : World} {m n : Nat} {D : DataW Unit} (h : w.ownsMap (H := Unit) Try.prog 3 (plainElem Try.prog 3) m n D) : Maps.size D ≤ n := by
  obtain ⟨es, clock, hb, F, hs, rfl⟩ := h
  simp [Maps.size, length_sorted]
  exact hs
/-- A clock in Tick, without its map. -/
structure TkB (b m : Nat) (now : Int) (w wr : World) : Prop where
  hb : wr.heap[b]? = some (.cells #[.int .i64 now, .map (some m)] 82 (0, 0))
  bx : wr.heap[w.heap.size]? = some (.cells #[.pointer (some ⟨b, 0, none⟩)] 23 (0, 0))
  kp : Kpt (fun j => j ≠ b ∧ j ≠ m) w wr
  nb : b < w.heap.size
  nm : m < w.heap.size
theorem TkB.kept {b m : Nat} {now : Int} {w wr w' : World} {Fp : Nat → Prop} (h : TkB b m now w wr) (hk : Kpt Fp wr w') (h1 : Fp b) (h2 : Fp w.heap.size) (h3 : ∀ j, j < w.heap.size → j ≠ b → j ≠ m → Fp j) : TkB b m now w w' :=
  ⟨(hk.block _ (blk_lt h.hb) h1).trans h.hb, (hk.block _ (blk_lt h.bx) h2).trans h.bx, ⟨hk.os.trans h.kp.os, hk.tape.trans h.kp.tape, hk.output.trans h.kp.output, Nat.le_trans h.kp.size hk.size, fun j hj hf => (hk.block j (Nat.lt_of_lt_of_le hj h.kp.size) (h3 j hj hf.1 hf.2)).trans (h.kp.block j hj hf)⟩, h.nb, h.nm⟩
theorem TkB.wsz {b m : Nat} {now : Int} {w wr : World} (h : TkB b m now w wr) : w.heap.size < wr.heap.size := blk_lt h.bx
theorem TkB.ck {b m n : Nat} {now : Int} {F : Int → Option Int} {D : DataW Unit} {w wr : World} (h : TkB b m now w wr) (hne : b ≠ m) (ho : wr.ownsMap (H := Unit) Try.prog 3 (plainElem Try.prog 3) m n D) (hf : FD D F) : CK b m n now F wr := ⟨h.hb, ⟨D, ho, hf⟩, hne⟩
def delA (F : Int → Option Int) (l : List Int) : Int → Option Int := fun id => if id ∈ l then none else F id
theorem delA_step (F : Int → Option Int) {l : List Int} {i : Nat} (h : i < l.length) : delF (delA F (l.take i)) l[i] = delA F (l.take (i + 1)) := by
  funext id
  unfold delF delA
  have hm : id ∈ l.take (i + 1) ↔ id ∈ l.take i ∨ id = l[i] := by rw [List.take_succ_eq_append_getElem h, List.mem_append, List.mem_singleton]
  by_cases e : id = l[i]
  · rw [if_pos e, if_pos (hm.2 (Or.inr e))]
  · rw [if_neg e]
    by_cases e2 : id ∈ l.take i
    · rw [if_pos e2, if_pos (hm.2 (Or.inl e2))]
    · rw [if_neg e2, if_neg (fun h9 => (hm.1 h9).elim e2 e)]
theorem delA_cut {F : Int → Option Int} {l : List Int} {T : Int} (h : ∀ x, (Lit.int .i64 x).wf = true → (x ∈ l ↔ ∃ v, F x = some v ∧ v ≤ T)) : EqF (delA F l) (cutF F T) := by
  intro id hw
  unfold delA
  by_cases e : id ∈ l
  · obtain ⟨v, h1, h2⟩ := (h id hw).1 e
    rw [if_pos e, cutF_le h1 h2]
  · rw [if_neg e]
    cases hf : F id with
    | none => rw [cutF_none hf]
    | some v => rw [cutF_gt hf (fun hv => e ((h id hw).2 ⟨v, hf, hv⟩))]
def TickC (b m n : Nat) (now : Int) (F : Int → Option Int) (T : Int) (w : World) (e : Ending) (w' : World) : Prop :=
  ∃ v l, e = .returned v ∧ w'.ownsRow w.heap.size 3 1 v l.length (inL l) ∧ CK b m n (now + T) (cutF F (now + T)) w' ∧ Kpt (fun j => j ≠ b ∧ j ≠ m) w w' ∧ l.Pairwise (ltW F) ∧ (∀ x ∈ l, (Lit.int .i64 x).wf = true) ∧ (∀ x, (Lit.int .i64 x).wf = true → (x ∈ l ↔ ∃ v, F x = some v ∧ v ≤ now + T)) ∧ l.length ≤ n
theorem own_up {w : World} {B B' : Nat} {e : TypeId} {sz n : Nat} {v : Value} {xs : List Value} (h : w.ownsRow B e sz v n xs) (hB : B' ≤ B) : w.ownsRow B' e sz v n xs := by
  refine ⟨h.1, ?_⟩
  rcases h.2 with h1 | ⟨g, cap, cur, h1, h2, rest⟩
  · exact .inl h1
  · exact .inr ⟨g, cap, cur, h1, Nat.le_trans hB h2, rest⟩
theorem in_cell {w : World} {B g c : Nat} {e : TypeId} {l : List Int} (h : w.ownsRow B e 1 (.slice (some ⟨g, 0, none⟩) l.length c) l.length (inL l)) {i : Nat} (hi : i < l.length) : w.cell? ⟨g, i, none⟩ = some (.int .i64 l[i]) := by
  rcases h.2 with ⟨h2, _⟩ | ⟨g', cap', cur, h2, h3, hg, h4, h5, h6, h7⟩
  · cases h2
  · cases h2
    refine blk_cell hg ?_
    have e1 := congrArg (fun l => l[i]?) h7
    simp only [List.getElem?_take, Array.getElem?_toList, inL, List.getElem?_map] at e1
    rw [if_pos (by omega), List.getElem?_eq_getElem hi] at e1
    exact e1
theorem own_kk2 {w w' : World} {B n r m : Nat} {v : Value} {l : List Int} {D : DataW Unit} {left : Lit → Bool} {cnt : Nat} (h : w.ownsRow B 3 1 v l.length (inL l)) (hk : Kpt (fun k => k ≠ r) w w') (hr : w.ranges Try.prog 3 (plainElem Try.prog 3) m r n D left cnt) : w'.ownsRow B 3 1 v l.length (inL l) := by
  refine ⟨h.1, ?_⟩
  rcases h.2 with h1 | ⟨g, cap, cur, h1, h2, h3, rest⟩
  · exact .inl h1
  · refine .inr ⟨g, cap, cur, h1, h2, (hk.block _ (blk_lt h3) (fun e => ?_)).trans h3, rest⟩
    obtain ⟨es, clock, since, seen, c0, _, _, _, _, hr, _⟩ := hr
    subst e
    rw [h3] at hr
    cases hr
theorem own_iter {w : World} {B n r m : Nat} {v : Value} {k : Nat} {xs : List Value} {D : DataW Unit} {left : Lit → Bool} {cnt : Nat} (h : w.ownsRow B 3 1 v k xs) (hr : w.ranges Try.prog 3 (plainElem Try.prog 3) m r n D left cnt) : v.ownBlock ≠ some r := by
  intro e
  rcases h.2 with ⟨h1, _⟩ | ⟨g, cap, cur, h1, h2, h3, rest⟩
  · subst h1
    cases e
  · subst h1
    obtain ⟨es, clock, since, seen, c0, _, _, _, _, hr, _⟩ := hr
    cases e
    rw [h3] at hr
    cases hr
theorem kpt_app {w1 w2 : World} {v : Value} {o : Obj} (h : (w1.alloc o).grownBy w2 v.ownBlock) : Kpt (fun k => v.ownBlock ≠ some k) w1 w2 :=
  Kpt.grown ((Kpt.refl _ w1).alloc o) h (fun k e hn => hn e)
/-- The first loop's relation: who has been met. -/
structure TkI (b m n : Nat) (now' : Int) (F : Int → Option Int) (D : DataW Unit) (v : Value) (l : List Int) (left : Lit → Bool) (cnt : Nat) (w wc wr : World) : Prop where
  ow : wr.ownsRow (w.heap.size + 1) 3 1 v l.length (inL l)
  rg : wr.ranges Try.prog 3 (plainElem Try.prog 3) m wc.heap.size n D left cnt
  col : Col F now' left l
  le : l.length + cnt ≤ n
  tk : TkB b m now' w wr
  sz : wc.heap.size < wr.heap.size
theorem inL_len (l : List Int) : (inL l).length = l.length := by simp [inL]
set_option maxRecDepth 100000 in
set_option maxHeartbeats 4000000 in
theorem ctick_any (b m n : Nat) (now : Int) (F : Int → Option Int) (k : Int) (w : World) (h : CK b m n now F w) (hn : n ≤ 1000) (hB : -1000000000000000000 ≤ now ∧ now ≤ 1000000000000000000) :
    Calls Try.prog 17 #[.pointer (some ⟨b, 0, none⟩), .int .i64 k] w (TickC b m n now F (tkI k) w) := by
  have HT := Kp.mk (fun w => ticks_any k w)
  have ht := tkI_in k
  generalize tkI k = T at *
  have hwr : IntKind.i64.wrap (now + T) = now + T := by
    simp [IntKind.wrap, IntKind.signed, IntKind.bits, wrap64]; omega
  obtain ⟨D, h1, h2⟩ := h.hm
  have hne := h.ne
  have hml := h.mlt
  have hbl := blk_lt h.hb
  have HNE := Kp.mk hne
  have HML := Kp.mk hml
  have HBL := Kp.mk hbl
  have HO := Kp.mk h1
  have HF := Kp.mk h2
  have HN := Kp.mk hn
  have hb1 : (w.alloc (.cells #[.pointer (some ⟨b, 0, none⟩)] 23)).heap[b]? = some (.cells #[.int .i64 now, .map (some m)] 82 (0, 0)) := (Below.heap_alloc w _ b hbl).trans h.hb
  have HB1 := Kp.mk hb1
  have c0 := blk_cell (i := 0) hb1 rfl
  have f0 := blk_free (i := 0) hb1
  have hbx := heap_alloc_new w (.cells #[.pointer (some ⟨b, 0, none⟩)] 23)
  have HBX := Kp.mk hbx
  have cb := blk_cell (i := 0) hbx rfl
  have e1 : ¬ b = w.heap.size := by omega
  have e2 : ¬ w.heap.size = b := by omega
  unfold TickC
  clear h h1 h2 hn hB ht hne hml hbl hb1 hbx
  go_enter Try.func17, Try.ntmps17
  go_upto_region 3 with fail
  go_cut [4] (fun v4 wr => v4 = .slice none 0 0 ∧ TkB b m (now + T) w wr ∧ wr.heap[m]? = w.heap[m]?)
  case first =>
    first
      | go_region_with (first
          | (go_at_call 37; refine (HT.out _).mono ?_; rintro e wq ⟨rfl, rfl⟩))
      | fail
    all_goals
      go_wp2_with fail
      go_meet
      have hk0 := (((Kpt.refl (fun j => j ≠ b ∧ j ≠ m) w).alloc (.cells #[.pointer (some ⟨b, 0, none⟩)] 23)).setCell (b := b) 0 (.int .i64 (now + T)) (fun h => h.1 rfl)).drew
      have hx2 : ((w.alloc (.cells #[.pointer (some ⟨b, 0, none⟩)] 23)).setCell ⟨b, 0, none⟩ (.int .i64 (now + T))).heap[w.heap.size]? = (w.alloc (.cells #[.pointer (some ⟨b, 0, none⟩)] 23)).heap[w.heap.size]? := Below.heap_setCell _ _ _ _ e2
      refine ⟨rfl, ⟨blk_set HB1.out _, hx2.trans HBX.out, hk0, HBL.out, HML.out⟩, ?_⟩
      exact (Below.heap_setCell _ _ _ _ (fun e => HNE.out e.symm)).trans (Below.heap_alloc w _ m HML.out)
  case rest =>
    obtain ⟨rfl, htk, hm9⟩ := hcut
    have HTK := Kp.mk htk
    have HOC := Kp.mk (own_blk HO.out hm9)
    have HSZ := Kp.mk (size_le41 HO.out)
    have hbC := htk.hb
    have hxC := htk.bx
    have k0 := blk_cell (i := 0) hbC rfl
    have k1 := blk_cell (i := 1) hbC rfl
    have kb := blk_cell (i := 0) hxC rfl
    clear htk hm9 hbC hxC c0 f0 cb e1 e2 HB1 HBX HT
    generalize hnow : now + T = now' at *
    have HNOW := Kp.mk hnow
    clear hnow hwr
    go_wp2_with (first
      | (at_range; refine wpList_range_own _ rfl _ 80 rfl 3 3 Try.keyI Try.underlying80 _ m n D rfl HOC.out ?_; intro w0 hrg0 hg0 hs0; have HR0 := Kp.mk hrg0; have HG0 := Kp.mk hg0; have HS0 := Kp.mk hs0; clear hrg0 hg0 hs0)
      | fail)
    go_frame
    go_loopw [5] (fun v5 wr => ∃ (l : List Int) (left : Lit → Bool) (cnt : Nat), TkI b m n now' F D v5 l left cnt w wc wr) (fun _ wr => wr.rangeLeft m wc.heap.size)
    case atStart => exact ⟨[], _, _, World.ownsRow_nil _ _ _ _, HR0.out, Col.start _ HF.out, by have := HSZ.out; simpa using this, HTK.out.kept (Kpt.grown (F := fun _ => True) (Kpt.refl _ _) HG0.out (fun _ h => by cases h)) trivial trivial (fun _ _ _ _ => trivial), by have := HS0.out; omega⟩
    case round =>
      obtain ⟨l, left, cnt, hI⟩ := hrel
      have HI := Kp.mk hI
      clear hI
      have hrgR := HI.out.rg
      go_wp2_with (first
        | (at_next; refine wpList_next_ranges_ii _ rfl _ rfl 3 3 .i64 .i64 Try.keyI Try.underlying3 Try.underlying3 m wc.heap.size n _ _ _ rfl hrgR ?_ ?_)
        | fail)
      · intro hc0 hl0
        have HL0 := Kp.mk hl0
        have HDN := Kp.mk (HI.out.col.done hl0)
        have HCK := Kp.mk (HI.out.tk.ck HNE.out HI.out.rg.owns HF.out)
        have hlN : l.length ≤ 1000 := by have := HI.out.le; have := HN.out; omega
        have kb2 := blk_cell (i := 0) HI.out.tk.bx rfl
        clear hl0 hc0 hrgR k0 k1 kb
        go_wp2_with fail
        refine (csortL b m n w.heap.size now' F _ (w.heap.size + 1) _ l HCK.out HI.out.tk.bx (by have := HBL.out; omega) (by have := HML.out; omega) (by omega) HI.out.ow hlN HI.out.col.wf).mono ?_
        rintro e w5 ⟨rfl, l', hp, hs, ho, hk⟩
        have hll := hp.length_eq
        have HP := Kp.mk hp
        have HS := Kp.mk (hs HI.out.col.nd)
        have HTK5 := Kp.mk (HI.out.tk.kept hk (by have := HBL.out; omega) (by omega) (fun j hj _ _ => by omega))
        have HCK5 := Kp.mk (HCK.out.kept (hk.block _ (blk_lt HCK.out.hb) (by have := HBL.out; omega)) (hk.block _ HCK.out.mlt (by have := HML.out; omega)))
        obtain ⟨a5, c5, rfl⟩ := own_lenH ho
        rw [← hll] at ho
        have HO5 := Kp.mk ho
        have hln : l'.length ≤ n := by have := HI.out.le; omega
        have HLN := Kp.mk hln
        have hl1 : l'.length ≤ 1000 := by omega
        clear hp hs ho hk
        rw [← hll]
        clear hll hlN hln
        go_wp2_with fail
        go_loopw [46] (fun i wr => ∃ j : Nat, j ≤ l'.length ∧ i = .int .i64 j ∧ TkB b m now' w wr ∧ CK b m n now' (delA F (l'.take j)) wr ∧ wr.ownsRow (w.heap.size + 1) 3 1 (.slice a5 l'.length c5) l'.length (inL l')) (fun i _ => l'.length - (intOf i).toNat)
        case atStart => exact ⟨0, by omega, rfl, HTK5.out, by
          have e : delA F (l'.take 0) = F := by funext id; unfold delA; simp
          rw [e]
          exact HCK5.out, HO5.out⟩
        case round =>
          obtain ⟨j, hj, rfl, ht, hc, ho⟩ := hrel
          have HT6 := Kp.mk ht
          have HC6 := Kp.mk hc
          have HO6 := Kp.mk ho
          clear ht hc ho
          by_cases hlt : j < l'.length
          · have hf : ∃ g, a5 = some ⟨g, 0, none⟩ := by
              rcases HO6.out.2 with ⟨h, h9⟩ | ⟨g, cap, cur, h, _⟩
              · omega
              · cases h
                exact ⟨g, rfl⟩
            obtain ⟨g, rfl⟩ := hf
            have ci := in_cell HO6.out hlt
            have q0 : (0 : Int) ≤ (j : Int) := by omega
            have q1 : (j : Int) < (l'.length : Int) := by omega
            have hgl := HO6.out.lt g rfl
            have HST := Kp.mk (delA_step F hlt)
            have HXW := Kp.mk (HI.out.col.wf _ (HP.out.mem_iff.1 (List.getElem_mem hlt)))
            have k1 := blk_cell (i := 1) HT6.out.hb rfl
            have kb := blk_cell (i := 0) HT6.out.bx rfl
            obtain ⟨D6, h6, hf6⟩ := HC6.out.hm
            have H6 := Kp.mk h6
            have HF6 := Kp.mk hf6
            generalize l'[j] = x at *
            clear h6 hf6
            go_wp2_with (first
              | (at_delete; refine wpList_delete_own _ rfl _ _ 80 3 rfl 3 Try.keyI Try.underlying80 _ m n D6 rfl H6.out _ _ rfl (Maps.keyOf_int_mk Try.underlying3 HXW.out) ?_; intro w7 ho7 ht7; have HO7 := Kp.mk ho7; have HG7 := Kp.mk ht7.grown; clear ho7 ht7)
              | fail)
            have HK7 := Kp.mk (kpt_grown HG7.out)
            have HT7 := Kp.mk (HT6.out.kept HK7.out (fun e => HNE.out e) (by have := HML.out; omega) (fun j _ _ h => h))
            have HC7 := Kp.mk (HT7.out.ck HNE.out HO7.out (HF6.out.del x))
            rw [HST.out] at HC7
            have HR7 := Kp.mk (own_kk HO6.out HK7.out (fun k hk => by have := HML.out; omega))
            go_roundw
            case rel => exact ⟨j + 1, by omega, by go_num, HT7.out, HC7.out, HR7.out⟩
            case measure => simp [intOf]; omega
          · have HA := Kp.mk (show l'.take j = l' from List.take_of_length_le (by omega))
            rw [HA.out] at HC6
            have HMB := Kp.mk (show ∀ x, (Lit.int .i64 x).wf = true → (x ∈ l' ↔ ∃ v, F x = some v ∧ v ≤ now') from fun x hx => HP.out.mem_iff.trans (HDN.out x hx))
            go_wp2_with fail
            go_ret
            have e9 := HNOW.out
            subst e9
            exact ⟨_, l', rfl, own_up HO6.out (by omega), HC6.out.cong (delA_cut HMB.out), HT6.out.kp, HS.out, fun x hx => HI.out.col.wf x (HP.out.mem_iff.1 hx), HMB.out, HLN.out⟩
      · intro x c w1 cnt1 hwx hwc hlx hat hrg1 hlt hg1 hs1 hen
        have HFX := Kp.mk (HI.out.col.val HF.out hwx hlx hat)
        have HCL := Kp.mk (HI.out.col.strike hwx hlx HFX.out)
        have HK1 := Kp.mk (show Kpt (fun k => k ≠ wc.heap.size) wr w1 from ⟨hg1.os, hg1.tape, hg1.output, hg1.size, fun k hk hne => hg1.block k hk (fun e => hne (by cases e; rfl))⟩)
        have hwc : w.heap.size < wc.heap.size := HTK.out.wsz
        have HT1 := Kp.mk (HI.out.tk.kept HK1.out (by have := HBL.out; omega) (by omega) (fun j hj _ _ => by omega))
        have HO1 := Kp.mk (own_kk2 HI.out.ow HK1.out HI.out.rg)
        have HRG1 := Kp.mk hrg1
        have HLT := Kp.mk hlt
        have HLQ := Kp.mk (show w1.rangeLeft m wc.heap.size < wr.rangeLeft m wc.heap.size by rw [hrg1.left_eq, hrgR.left_eq]; exact hlt)
        have k0 := blk_cell (i := 0) HT1.out.hb rfl
        have kb := blk_cell (i := 0) HT1.out.bx rfl
        have hsz1 := HT1.out.wsz
        have hln : l.length ≤ 1000 := by have := HI.out.le; have := HN.out; omega
        clear hwx hwc hlx hat hrg1 hlt hg1 hs1
        by_cases hc : c ≤ now'
        · rw [if_pos hc] at HCL
          have hlen0 : (l.length + 1) * 8 ≤ 140737488355328 := by omega
          have hmx0 : l.length + 1 ≤ maxLen := by unfold maxLen; omega
          go_wp2_with (first
            | (at_builtin; refine app_any rfl _ _ _ _ rfl Try.underlying38 _ _ _ Try.infoIn rfl (by omega) (w.heap.size + 1) _ _ _ rfl HO1.out #[.int .i64 x] rfl (fun u hu => by simp at hu; subst hu; rfl) _ rfl rfl hlen0 hmx0 hsz1 ?_; intro g' cap' w2 h1 h2 h3; have G1 := Kp.mk h1; have G2 := Kp.mk h2; clear h1 h2 h3)
            | fail)
          have HK2 := Kp.mk (kpt_app (w1 := w1) G2.out)
          have HGB := Kp.mk (fun k e => (HO1.out.lt k e).1)
          have HT2 := Kp.mk (HT1.out.kept HK2.out (fun e => by have := HGB.out _ e; have := HBL.out; omega) (fun e => by have := HGB.out _ e; omega) (fun j hj _ _ e => by have := HGB.out _ e; omega))
          have HRG2 := Kp.mk (show w2.ranges Try.prog 3 (plainElem Try.prog 3) m wc.heap.size n D _ cnt1 from (HRG1.out.alloc _).kept G2.out (fun e => by have := HGB.out _ e.symm; have := HML.out; omega) (fun e => own_iter HO1.out HRG1.out e.symm))
          have HO2 := Kp.mk (show w2.ownsRow (w.heap.size + 1) 3 1 (.slice (some ⟨g', 0, none⟩) (l.length + 1) cap') (l ++ [x]).length (inL (l ++ [x])) by
            have e8 : inL (l ++ [x]) = inL l ++ [.int .i64 x] := by simp [inL]
            rw [e8, List.length_append]
            exact G1.out)
          have HLQ2 := Kp.mk (show w2.rangeLeft m wc.heap.size < wr.rangeLeft m wc.heap.size by rw [HRG2.out.left_eq, hrgR.left_eq]; exact HLT.out)
          go_wp2_with fail
          go_roundw
          case rel => exact ⟨l ++ [x], _, cnt1, HO2.out, HRG2.out, HCL.out, by have := HI.out.le; have := HLT.out; simp; omega, HT2.out, by have := HI.out.sz; have := HK1.out.size; have := HK2.out.size; omega⟩
          case measure => exact HLQ2.out
        · rw [if_neg hc] at HCL
          go_wp2_with fail
          go_roundw
          case rel => exact ⟨l, _, cnt1, HO1.out, HRG1.out, HCL.out, by have := HI.out.le; have := HLT.out; omega, HT1.out, by have := HI.out.sz; have := HK1.out.size; omega⟩
          case measure => exact HLQ.out
end Go.Proofs.Ytpgnekejemockaa
