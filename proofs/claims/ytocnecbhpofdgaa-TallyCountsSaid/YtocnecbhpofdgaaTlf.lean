/- Tally (layer 49): Tally.sorted (bin/mktlf.py). -/
import Derived.Test.YtocnecbhpofdgaaTle
import Derived.BigQuiet
namespace Go.Proofs.Ytocnecbhpofdgaa
open Go.RowKit Go.Shelf Go.Lib Go.Sort
set_option linter.unusedVariables false
set_option linter.unusedSimpArgs false

theorem own_upT {w : World} {B B' : Nat} {e : TypeId} {sz n : Nat} {v : Value} {xs : List Value} (h : w.ownsRow B e sz v n xs) (hB : B' ≤ B) : w.ownsRow B' e sz v n xs := by
  refine ⟨h.1, ?_⟩
  rcases h.2 with h1 | ⟨g, cap, cur, h1, h2, rest⟩
  · exact .inl h1
  · exact .inr ⟨g, cap, cur, h1, Nat.le_trans hB h2, rest⟩
theorem keyOf_strT_inv {P : Program} {k : TypeId} (hk : P.underlying k = some .string) {v : Value} {l : Lit} (h : keyOf P k v = some l) : ∃ x : ByteArray, v = .string x ∧ l = .string x.data.toList ∧ x.size ≤ maxLen := by
  cases v <;> simp [keyOf, hk, mapKey] at h
  rename_i x
  exact ⟨x, rfl, h.2.symm, h.1⟩
theorem wpList_next_ranges_si {P : Program} (w : World) {ops : Array Oper} {rest : List Oper} {o : Oper} {a : Act} {Q : Exit → Act → World → Prop}
    (hg : o.guard = none) (it : Operand) (hop : o.op = Op.next it false) (k e : TypeId) (qe : IntKind) (K : Maps.Keyed P k) (hk : P.underlying k = some .string) (he : P.underlying e = some (.int qe))
    (b r n : Nat) (D : DataW Unit) (left : Lit → Bool) (cnt : Nat) (hit : a.eval it = .pointer (some ⟨r, 0, none⟩)) (h : w.ranges P k (plainElem P e) b r n D left cnt)
    (hDone : cnt = 0 → (∀ kl, left kl = false) → wpList P ops Q rest (a.put o.dst (.tuple #[.bool false])) w)
    (hMore : ∀ (x : ByteArray) (c : Int) (w' : World) (cnt' : Nat), x.size ≤ maxLen → (Lit.int qe c).wf = true → left (.string x.data.toList) = true → (∀ zd, D.atKey (.string x.data.toList) zd = .lit (.int qe c)) → w'.ranges P k (plainElem P e) b r n D (fun z => left z && !z.sameKey (.string x.data.toList)) cnt' → cnt' < cnt →
      w.grownBy w' (some r) → w'.heap.size = w.heap.size → (Instr.entry (.pointer (some ⟨r, 0, none⟩))).run P w' = .ok (.tuple #[.string x, .int qe c]) w' → wpList P ops Q rest (a.put o.dst (.tuple #[.bool true, .string x, .int qe c])) w') :
    wpList P ops Q (o :: rest) a w :=
  wpList_next_ranges w hg it hop k K (plainElem P e) Value.string (Value.int qe) (fun key kl hkey => by obtain ⟨x, rfl, _⟩ := keyOf_strT_inv hk hkey; exact ⟨x, rfl⟩) (fun v y hv => by obtain ⟨c, rfl, _⟩ := plainElem_int_inv he hv; exact ⟨c, rfl⟩)
    b r n D left cnt hit h hDone (fun x c kl y w' cnt' hkey hlk hv hat hrg hlt hgr hsz hen => by
      obtain ⟨x', ex, rfl, hwx⟩ := keyOf_strT_inv hk hkey
      cases ex
      obtain ⟨c', ec, rfl, hwc⟩ := plainElem_int_inv he hv
      cases ec
      exact hMore x c w' cnt' hwx hwc hlk hat hrg hlt hgr hsz hen)
set_option maxRecDepth 100000 in
theorem tclo0s_any (bx : Nat) (x : ByteArray) (w : World) :
    Calls Try.prog 84 #[.string x, .int .i64 0, .pointer (some ⟨bx, 0, none⟩)] w fun e w' => e = .returned (.tuple #[]) ∧ w' = w := by
  go_enter Try.func84, Try.ntmps84
  go_wp2_with fail
  first | go_end0 | go_ret
  exact ⟨rfl, rfl⟩
theorem sizeTs {w : World} {m n : Nat} {D : DataW Unit} (h : w.ownsMap (H := Unit) Try.prog 9 (plainElem Try.prog 3) m n D) : Maps.size D ≤ n := by
  obtain ⟨es, clock, hb, F, hs, rfl⟩ := h
  simp [Maps.size, length_sorted]
  exact hs
theorem own_iterTs {w : World} {B n r m sz k : Nat} {e : TypeId} {v : Value} {xs : List Value} {D : DataW Unit} {left : Lit → Bool} {cnt : Nat} (h : w.ownsRow B e sz v k xs) (hr : w.ranges Try.prog 9 (plainElem Try.prog 3) m r n D left cnt) : v.ownBlock ≠ some r := by
  intro he
  rcases h.2 with ⟨h1, _⟩ | ⟨g, cap, cur, h1, h2, h3, rest⟩
  · subst h1
    cases he
  · subst h1
    obtain ⟨es, clock, since, seen, c0, _, _, _, _, hr, _⟩ := hr
    cases he
    rw [h3] at hr
    cases hr
theorem it_noTs {w : World} {n r m : Nat} {e : TypeId} {D : DataW Unit} {left : Lit → Bool} {cnt : Nat} (hr : w.ranges Try.prog 9 (plainElem Try.prog 3) m r n D left cnt) : ∀ cur, w.heap[r]? ≠ some (.cells cur e (0, 0)) := by
  intro cur h3
  obtain ⟨es, clock, since, seen, c0, _, _, _, _, hr, _⟩ := hr
  rw [h3] at hr
  cases hr
theorem rg_keepTs {w w' : World} {n r m : Nat} {D : DataW Unit} {left : Lit → Bool} {cnt : Nat} (h : w.ranges Try.prog 9 (plainElem Try.prog 3) m r n D left cnt) (h1 : w'.heap[m]? = w.heap[m]?) (h2 : w'.heap[r]? = w.heap[r]?) : w'.ranges Try.prog 9 (plainElem Try.prog 3) m r n D left cnt := by
  obtain ⟨es, clock, since, seen, c0, hb, F, hs, hD, hr, rest⟩ := h
  exact ⟨es, clock, since, seen, c0, h1.trans hb, F, hs, hD, h2.trans hr, rest⟩
theorem range_nils (w : World) : (Instr.range 69 (.map none)).run Try.prog w = .ok (.pointer (some ⟨w.heap.size, 0, none⟩)) (w.alloc (.mapIter none 0 #[] 0)) := by kernel_rfl
theorem next_nils (w : World) (r : Nat) (h : w.heap[r]? = some (.mapIter none 0 #[] 0)) (t : TypeId) : (Instr.next (.pointer (some ⟨r, 0, none⟩)) false t).run Try.prog w = .ok (.tuple #[.bool false]) w := by
  simp only [Instr.next, getObj, Sem.run_bind, Sem.run, h, Result.andThen]
  rfl
def Sos (F : ByteArray → Int) (n : Nat) (w : World) (e : Ending) (w' : World) : Prop :=
  ∃ (v : Value) (L : List Rs), e = .returned v ∧ w'.ownsRow w.heap.size 110 2 v L.length (L.flatMap RsE) ∧ Below w.heap.size w w' ∧ L.length ≤ n ∧ (L.map (·.1)).Nodup ∧ L.Pairwise (fun p q => ltOf RsC q p = false) ∧ (∀ p ∈ L, (p.1.size ≤ maxLen) ∧ F p.1 = p.2 ∧ 0 < p.2) ∧ ∀ x : ByteArray, x.size ≤ maxLen → 0 < F x → x ∈ L.map (·.1)
/-- The range's relation. -/
structure SoIs (B b m n : Nat) (F : ByteArray → Int) (D : DataW Unit) (left : Lit → Bool) (cnt : Nat) (w wc wr : World) : Prop where
  rg : wr.ranges Try.prog 9 (plainElem Try.prog 3) m wc.heap.size n D left cnt
  col : ∃ L, Mts F left L ∧ Bxs (w.heap.size + 1) w.heap.size L wr ∧ L.length + cnt ≤ n
  bl : Below w.heap.size w wr
  sz : wc.heap.size < wr.heap.size
  ws : w.heap.size < wc.heap.size
set_option maxRecDepth 100000 in
set_option maxHeartbeats 2000000 in
theorem tsorts_any (B b n : Nat) (F : ByteArray → Int) (w : World) (h : Tys B b n F w) (hn : n ≤ 1000) :
    Calls Try.prog 74 #[.pointer (some ⟨b, 0, none⟩)] w (Sos F n w) := by
  obtain ⟨-, -, mo, h3, h4⟩ := h
  have hbl := blk_lt h3
  have g3 := blk_alloc (o2 := .cells #[.slice none 0 0] 107) h3
  have hbx := heap_alloc_new w (.cells #[.slice none 0 0] 107)
  have HBX := Kp.mk hbx
  have HG := Kp.mk g3
  have HA := Kp.mk ((Below.refl w.heap.size w).alloc (Nat.le_refl _) (.cells #[.slice none 0 0] 107))
  have c0 := blk_cell (i := 0) g3 rfl
  have c1 := blk_cell (i := 1) g3 rfl
  have c2 := blk_cell (i := 2) g3 rfl
  clear h3 g3 hbx
  go_enter Try.func74, Try.ntmps74
  go_upto_region 5 with fail
  generalize hW1 : w.alloc (.cells #[.slice none 0 0] 107) = W1 at *
  have hW1s : W1.heap.size = w.heap.size + 1 := by rw [← hW1]; simp
  clear hW1
  go_quiet ((go_at_call 84; exact Calls.quiet_of_same (tclo0s_any _ _ _)))
  have HB2 := Kp.mk (show RowKit.Below w.heap.size w (W1.drewN nq) from HA.out.trans ⟨rfl, rfl, rfl, Nat.le_refl _, fun _ _ => rfl⟩)
  have hg2 := blk_drewN HG.out nq
  have hx2 := blk_drewN HBX.out nq
  have hs2 : w.heap.size + 1 = (W1.drewN nq).heap.size := hW1s.symm
  clear HA HG HBX c0 c1 c2 hW1s
  generalize W1.drewN nq = W2 at *
  have k0 := blk_cell (i := 0) hg2 rfl
  have kb := blk_cell (i := 0) hx2 rfl
  have HX2 := Kp.mk hx2
  have HG2 := Kp.mk hg2
  have HS2 := Kp.mk hs2
  clear hg2 hx2 hs2
  have HN := Kp.mk hn
  rcases h4 with ⟨rfl, rfl⟩ | ⟨m, D, rfl, hne, -, ho, hf⟩
  · have P := range_nils W2
    have HB3 := Kp.mk (show RowKit.Below w.heap.size w (W2.alloc (.mapIter none 0 #[] 0)) from HB2.out.alloc HB2.out.size _)
    have hx3 := blk_alloc (o2 := .mapIter none 0 #[] 0) HX2.out
    have HX3 := Kp.mk hx3
    have h9 := heap_alloc_new W2 (.mapIter none 0 #[] 0)
    go_upto_region 7 with fail
    generalize W2.alloc (.mapIter none 0 #[] 0) = W3 at *
    have N := next_nils W3 W2.heap.size h9
    go_loopw [] (fun wr => wr = W3) (fun _ => 0)
    case atStart => rfl
    case round =>
      subst hrel
      have kb3 := blk_cell (i := 0) hx3 rfl
      go_wp2_with fail
      refine (Rssorts (w.heap.size + 1) 0 (.slice none 0 0) [] wr 110 (World.ownsRow_nil _ _ _ _) rfl (by omega)).mono ?_
      rintro e w5 ⟨rfl, L', hp, hs, ho, hb5⟩
      have eL : L' = [] := hp.eq_nil
      subst eL
      have hb6 := (hb5.block w.heap.size (Nat.lt_succ_self _)).trans HX3.out
      have kb5 := blk_cell (i := 0) hb6 rfl
      have HB5 := Kp.mk hb5
      clear hp hs ho hb5 hb6 kb3
      go_wp2_with fail
      go_ret
      exact ⟨.slice none 0 0, [], rfl, World.ownsRow_nil _ _ _ _, HB3.out.trans (HB5.out.mono (Nat.le_succ _)), Nat.zero_le _, by simp, List.Pairwise.nil, fun p hp => (by cases hp), fun x hw hq => absurd hq (by simp)⟩
  · have HM := Kp.mk (And.intro hne ho.lt)
    have HOC := Kp.mk (own_blkTs ho (HB2.out.block m ho.lt))
    have HF := Kp.mk hf
    have HBL := Kp.mk hbl
    clear ho hf hne hn hbl
    go_wp2_with (first
      | (at_range; refine wpList_range_own _ rfl _ 69 rfl 9 3 Try.keyTs Try.underlying69 _ m n D rfl HOC.out ?_; intro w0 hrg0 hg0 hs0; have HR0 := Kp.mk hrg0; have HG0 := Kp.mk hg0; have HS0 := Kp.mk hs0; clear hrg0 hg0 hs0)
      | fail)
    have HSZ := Kp.mk (sizeTs HOC.out)
    have HBLT := Kp.mk (show RowKit.Below w.heap.size w w0 from HB2.out.grown HG0.out HB2.out.size (fun k hk => by cases hk))
    have HBX0 := Kp.mk ((HG0.out.block w.heap.size (by have := HS2.out; omega) (by simp)).trans HX2.out)
    go_frame
    go_loopw [] (fun wr => ∃ (left : Lit → Bool) (cnt : Nat), SoIs B b m n F D left cnt w W2 wr) (fun wr => wr.rangeLeft m W2.heap.size)
    case atStart => exact ⟨_, _, HR0.out, ⟨[], Mts.start HF.out, ⟨.slice none 0 0, HBX0.out, World.ownsRow_nil _ _ _ _, by simp [Value.ownBlock]⟩, by have := HSZ.out; simpa using this⟩, HBLT.out, by have := HS0.out; omega, by have := HS2.out; omega⟩
    case round =>
      obtain ⟨left, cnt, hI⟩ := hrel
      have HI := Kp.mk hI
      obtain ⟨L, hc, hb, hle⟩ := hI.col
      have HC := Kp.mk hc
      have HBB := Kp.mk hb
      have HLE := Kp.mk hle
      clear hI hc hb hle
      have hrgR := HI.out.rg
      go_wp2_with (first
        | (at_next; refine wpList_next_ranges_si _ rfl _ rfl 9 3 .i64 Try.keyTs Try.underlying9 Try.underlying3 m W2.heap.size n _ _ _ rfl hrgR ?_ ?_)
        | fail)
      · intro hc0 hl0
        have HDN := Kp.mk (show ∀ x : ByteArray, x.size ≤ maxLen → 0 < F x → x ∈ L.map (·.1) from fun x hw hp => HC.out.all x hw hp (hl0 _))
        clear hc0 hl0 hrgR k0 kb
        obtain ⟨vb, q1, q2, q3⟩ := HBB.out
        have kb := blk_cell (i := 0) q1 rfl
        have hnL : L.length ≤ 100000 := by have := HLE.out; have := HN.out; omega
        have HSR := Kp.mk (Rssorts (w.heap.size + 1) L.length vb L wr 110 q2 rfl hnL)
        have HQ1 := Kp.mk q1
        clear q1 q2 q3
        go_wp2_with fail
        refine HSR.out.mono ?_
        rintro e w5 ⟨rfl, L', hp, hs, ho, hb5⟩
        have hll := hp.length_eq
        have hb6 := (hb5.block w.heap.size (Nat.lt_succ_self _)).trans HQ1.out
        have kb5 := blk_cell (i := 0) hb6 rfl
        have HP := Kp.mk hp
        have HSS := Kp.mk hs
        have HO := Kp.mk ho
        have HB5 := Kp.mk hb5
        clear hp hs ho hb5 hb6 kb
        go_wp2_with fail
        go_ret
        refine ⟨vb, L', rfl, ?_, HI.out.bl.trans (HB5.out.mono (Nat.le_succ _)), ?_, ?_, HSS.out, fun p hp => ?_, fun x hw hq => ?_⟩
        · rw [hll]
          exact own_upT HO.out (Nat.le_succ _)
        · have := HLE.out; omega
        · exact (HP.out.map _).nodup_iff.2 HC.out.nd
        · obtain ⟨r1, r2, r3, -⟩ := HC.out.ok p (HP.out.mem_iff.1 hp)
          exact ⟨r1, r2, r3⟩
        · exact (HP.out.map _).mem_iff.2 (HDN.out x hw hq)
      · intro x cc w1 cnt1 hwx hwc hlx hat hrg1 hlt hg1 hs1 hen
        have HFX := Mts.val HF.out hwx hat
        have HCL := Kp.mk (HC.out.strike hwx hlx HFX)
        have HRG1 := Kp.mk hrg1
        have HLT := Kp.mk hlt
        obtain ⟨vb, q1, q2, q3⟩ := HBB.out
        have hb1 : Bxs (w.heap.size + 1) w.heap.size L w1 := ⟨vb, (hg1.block _ (blk_lt q1) (fun e => by injection e with e; have := HS2.out; omega)).trans q1, q2.kept hg1 (.inr (own_iterTs q2 hrgR)), q3⟩
        have hnL : L.length ≤ 10000 := by have := HLE.out; have := HN.out; omega
        have HCO := Kp.mk (tclos_any (w.heap.size + 1) w.heap.size L x cc w1 hb1 hnL (by have := HI.out.sz; have := HS2.out; omega))
        have HBL1 := Kp.mk (show RowKit.Below w.heap.size w w1 from HI.out.bl.grown hg1 HI.out.bl.size (fun k hk => by injection hk with hk; have := HS2.out; omega))
        have HSZ1 := Kp.mk (show W2.heap.size < w1.heap.size by have := HI.out.sz; omega)
        have HLQ := Kp.mk (show cnt1 < wr.rangeLeft m W2.heap.size by rw [hrgR.left_eq]; exact hlt)
        clear hwx hwc hlx hat hrg1 hlt hg1 hs1 hb1 q1 q2 q3 HFX hnL k0 kb
        go_wp2_with fail
        refine HCO.out.mono ?_
        rintro e w2 ⟨rfl, hb2, hk2⟩
        have HR2 := Kp.mk (rg_keepTs HRG1.out (hk2.low _ HRG1.out.owns.lt (by have := HM.out.2; omega) (by have := HM.out.2; omega)) (hk2.block _ HSZ1.out (by have := HS2.out; omega) (it_noTs HRG1.out)))
        have HBB2 := Kp.mk hb2
        have HBL2 := Kp.mk (show RowKit.Below w.heap.size w w2 from HBL1.out.trans ⟨hk2.os, hk2.tape, hk2.output, hk2.size, fun k hk => hk2.low k (Nat.lt_of_lt_of_le hk HBL1.out.size) (by omega) (by omega)⟩)
        have HSZ2 := Kp.mk (show W2.heap.size < w2.heap.size from Nat.lt_of_lt_of_le HSZ1.out hk2.size)
        clear hb2 hk2 hrgR hen
        go_wp2_with fail
        go_roundw
        case rel => exact ⟨_, cnt1, HR2.out, ⟨_, HCL.out, HBB2.out, by have := HLE.out; have := HLT.out; split <;> simp <;> omega⟩, HBL2.out, HSZ2.out, HI.out.ws⟩
        case measure => rw [HR2.out.left_eq]; exact HLQ.out
set_option maxRecDepth 100000 in
theorem tclo0i_any (bx : Nat) (x : Int) (w : World) :
    Calls Try.prog 65 #[.int .i64 x, .int .i64 0, .pointer (some ⟨bx, 0, none⟩)] w fun e w' => e = .returned (.tuple #[]) ∧ w' = w := by
  go_enter Try.func65, Try.ntmps65
  go_wp2_with fail
  first | go_end0 | go_ret
  exact ⟨rfl, rfl⟩
theorem sizeTi {w : World} {m n : Nat} {D : DataW Unit} (h : w.ownsMap (H := Unit) Try.prog 3 (plainElem Try.prog 3) m n D) : Maps.size D ≤ n := by
  obtain ⟨es, clock, hb, F, hs, rfl⟩ := h
  simp [Maps.size, length_sorted]
  exact hs
theorem own_iterTi {w : World} {B n r m sz k : Nat} {e : TypeId} {v : Value} {xs : List Value} {D : DataW Unit} {left : Lit → Bool} {cnt : Nat} (h : w.ownsRow B e sz v k xs) (hr : w.ranges Try.prog 3 (plainElem Try.prog 3) m r n D left cnt) : v.ownBlock ≠ some r := by
  intro he
  rcases h.2 with ⟨h1, _⟩ | ⟨g, cap, cur, h1, h2, h3, rest⟩
  · subst h1
    cases he
  · subst h1
    obtain ⟨es, clock, since, seen, c0, _, _, _, _, hr, _⟩ := hr
    cases he
    rw [h3] at hr
    cases hr
theorem it_noTi {w : World} {n r m : Nat} {e : TypeId} {D : DataW Unit} {left : Lit → Bool} {cnt : Nat} (hr : w.ranges Try.prog 3 (plainElem Try.prog 3) m r n D left cnt) : ∀ cur, w.heap[r]? ≠ some (.cells cur e (0, 0)) := by
  intro cur h3
  obtain ⟨es, clock, since, seen, c0, _, _, _, _, hr, _⟩ := hr
  rw [h3] at hr
  cases hr
theorem rg_keepTi {w w' : World} {n r m : Nat} {D : DataW Unit} {left : Lit → Bool} {cnt : Nat} (h : w.ranges Try.prog 3 (plainElem Try.prog 3) m r n D left cnt) (h1 : w'.heap[m]? = w.heap[m]?) (h2 : w'.heap[r]? = w.heap[r]?) : w'.ranges Try.prog 3 (plainElem Try.prog 3) m r n D left cnt := by
  obtain ⟨es, clock, since, seen, c0, hb, F, hs, hD, hr, rest⟩ := h
  exact ⟨es, clock, since, seen, c0, h1.trans hb, F, hs, hD, h2.trans hr, rest⟩
theorem range_nili (w : World) : (Instr.range 46 (.map none)).run Try.prog w = .ok (.pointer (some ⟨w.heap.size, 0, none⟩)) (w.alloc (.mapIter none 0 #[] 0)) := by kernel_rfl
theorem next_nili (w : World) (r : Nat) (h : w.heap[r]? = some (.mapIter none 0 #[] 0)) (t : TypeId) : (Instr.next (.pointer (some ⟨r, 0, none⟩)) false t).run Try.prog w = .ok (.tuple #[.bool false]) w := by
  simp only [Instr.next, getObj, Sem.run_bind, Sem.run, h, Result.andThen]
  rfl
def Soi (F : Int → Int) (n : Nat) (w : World) (e : Ending) (w' : World) : Prop :=
  ∃ (v : Value) (L : List Ri), e = .returned v ∧ w'.ownsRow w.heap.size 81 2 v L.length (L.flatMap RiE) ∧ Below w.heap.size w w' ∧ L.length ≤ n ∧ (L.map (·.1)).Nodup ∧ L.Pairwise (fun p q => ltOf RiC q p = false) ∧ (∀ p ∈ L, ((Lit.int .i64 p.1).wf = true) ∧ F p.1 = p.2 ∧ 0 < p.2) ∧ ∀ x : Int, (Lit.int .i64 x).wf = true → 0 < F x → x ∈ L.map (·.1)
/-- The range's relation. -/
structure SoIi (B b m n : Nat) (F : Int → Int) (D : DataW Unit) (left : Lit → Bool) (cnt : Nat) (w wc wr : World) : Prop where
  rg : wr.ranges Try.prog 3 (plainElem Try.prog 3) m wc.heap.size n D left cnt
  col : ∃ L, Mti F left L ∧ Bxi (w.heap.size + 1) w.heap.size L wr ∧ L.length + cnt ≤ n
  bl : Below w.heap.size w wr
  sz : wc.heap.size < wr.heap.size
  ws : w.heap.size < wc.heap.size
set_option maxRecDepth 100000 in
set_option maxHeartbeats 2000000 in
theorem tsorti_any (B b n : Nat) (F : Int → Int) (w : World) (h : Tyi B b n F w) (hn : n ≤ 1000) :
    Calls Try.prog 41 #[.pointer (some ⟨b, 0, none⟩)] w (Soi F n w) := by
  obtain ⟨-, -, mo, h3, h4⟩ := h
  have hbl := blk_lt h3
  have g3 := blk_alloc (o2 := .cells #[.slice none 0 0] 78) h3
  have hbx := heap_alloc_new w (.cells #[.slice none 0 0] 78)
  have HBX := Kp.mk hbx
  have HG := Kp.mk g3
  have HA := Kp.mk ((Below.refl w.heap.size w).alloc (Nat.le_refl _) (.cells #[.slice none 0 0] 78))
  have c0 := blk_cell (i := 0) g3 rfl
  have c1 := blk_cell (i := 1) g3 rfl
  have c2 := blk_cell (i := 2) g3 rfl
  clear h3 g3 hbx
  go_enter Try.func41, Try.ntmps41
  go_upto_region 5 with fail
  generalize hW1 : w.alloc (.cells #[.slice none 0 0] 78) = W1 at *
  have hW1s : W1.heap.size = w.heap.size + 1 := by rw [← hW1]; simp
  clear hW1
  go_quiet ((go_at_call 65; exact Calls.quiet_of_same (tclo0i_any _ _ _)))
  have HB2 := Kp.mk (show RowKit.Below w.heap.size w (W1.drewN nq) from HA.out.trans ⟨rfl, rfl, rfl, Nat.le_refl _, fun _ _ => rfl⟩)
  have hg2 := blk_drewN HG.out nq
  have hx2 := blk_drewN HBX.out nq
  have hs2 : w.heap.size + 1 = (W1.drewN nq).heap.size := hW1s.symm
  clear HA HG HBX c0 c1 c2 hW1s
  generalize W1.drewN nq = W2 at *
  have k0 := blk_cell (i := 0) hg2 rfl
  have kb := blk_cell (i := 0) hx2 rfl
  have HX2 := Kp.mk hx2
  have HG2 := Kp.mk hg2
  have HS2 := Kp.mk hs2
  clear hg2 hx2 hs2
  have HN := Kp.mk hn
  rcases h4 with ⟨rfl, rfl⟩ | ⟨m, D, rfl, hne, -, ho, hf⟩
  · have P := range_nili W2
    have HB3 := Kp.mk (show RowKit.Below w.heap.size w (W2.alloc (.mapIter none 0 #[] 0)) from HB2.out.alloc HB2.out.size _)
    have hx3 := blk_alloc (o2 := .mapIter none 0 #[] 0) HX2.out
    have HX3 := Kp.mk hx3
    have h9 := heap_alloc_new W2 (.mapIter none 0 #[] 0)
    go_upto_region 7 with fail
    generalize W2.alloc (.mapIter none 0 #[] 0) = W3 at *
    have N := next_nili W3 W2.heap.size h9
    go_loopw [] (fun wr => wr = W3) (fun _ => 0)
    case atStart => rfl
    case round =>
      subst hrel
      have kb3 := blk_cell (i := 0) hx3 rfl
      go_wp2_with fail
      refine (Risorts (w.heap.size + 1) 0 (.slice none 0 0) [] wr 81 (World.ownsRow_nil _ _ _ _) rfl (by omega)).mono ?_
      rintro e w5 ⟨rfl, L', hp, hs, ho, hb5⟩
      have eL : L' = [] := hp.eq_nil
      subst eL
      have hb6 := (hb5.block w.heap.size (Nat.lt_succ_self _)).trans HX3.out
      have kb5 := blk_cell (i := 0) hb6 rfl
      have HB5 := Kp.mk hb5
      clear hp hs ho hb5 hb6 kb3
      go_wp2_with fail
      go_ret
      exact ⟨.slice none 0 0, [], rfl, World.ownsRow_nil _ _ _ _, HB3.out.trans (HB5.out.mono (Nat.le_succ _)), Nat.zero_le _, by simp, List.Pairwise.nil, fun p hp => (by cases hp), fun x hw hq => absurd hq (by simp)⟩
  · have HM := Kp.mk (And.intro hne ho.lt)
    have HOC := Kp.mk (own_blkTi ho (HB2.out.block m ho.lt))
    have HF := Kp.mk hf
    have HBL := Kp.mk hbl
    clear ho hf hne hn hbl
    go_wp2_with (first
      | (at_range; refine wpList_range_own _ rfl _ 46 rfl 3 3 Try.keyTi Try.underlying46 _ m n D rfl HOC.out ?_; intro w0 hrg0 hg0 hs0; have HR0 := Kp.mk hrg0; have HG0 := Kp.mk hg0; have HS0 := Kp.mk hs0; clear hrg0 hg0 hs0)
      | fail)
    have HSZ := Kp.mk (sizeTi HOC.out)
    have HBLT := Kp.mk (show RowKit.Below w.heap.size w w0 from HB2.out.grown HG0.out HB2.out.size (fun k hk => by cases hk))
    have HBX0 := Kp.mk ((HG0.out.block w.heap.size (by have := HS2.out; omega) (by simp)).trans HX2.out)
    go_frame
    go_loopw [] (fun wr => ∃ (left : Lit → Bool) (cnt : Nat), SoIi B b m n F D left cnt w W2 wr) (fun wr => wr.rangeLeft m W2.heap.size)
    case atStart => exact ⟨_, _, HR0.out, ⟨[], Mti.start HF.out, ⟨.slice none 0 0, HBX0.out, World.ownsRow_nil _ _ _ _, by simp [Value.ownBlock]⟩, by have := HSZ.out; simpa using this⟩, HBLT.out, by have := HS0.out; omega, by have := HS2.out; omega⟩
    case round =>
      obtain ⟨left, cnt, hI⟩ := hrel
      have HI := Kp.mk hI
      obtain ⟨L, hc, hb, hle⟩ := hI.col
      have HC := Kp.mk hc
      have HBB := Kp.mk hb
      have HLE := Kp.mk hle
      clear hI hc hb hle
      have hrgR := HI.out.rg
      go_wp2_with (first
        | (at_next; refine wpList_next_ranges_ii _ rfl _ rfl 3 3 .i64 .i64 Try.keyTi Try.underlying3 Try.underlying3 m W2.heap.size n _ _ _ rfl hrgR ?_ ?_)
        | fail)
      · intro hc0 hl0
        have HDN := Kp.mk (show ∀ x : Int, (Lit.int .i64 x).wf = true → 0 < F x → x ∈ L.map (·.1) from fun x hw hp => HC.out.all x hw hp (hl0 _))
        clear hc0 hl0 hrgR k0 kb
        obtain ⟨vb, q1, q2, q3⟩ := HBB.out
        have kb := blk_cell (i := 0) q1 rfl
        have hnL : L.length ≤ 100000 := by have := HLE.out; have := HN.out; omega
        have HSR := Kp.mk (Risorts (w.heap.size + 1) L.length vb L wr 81 q2 rfl hnL)
        have HQ1 := Kp.mk q1
        clear q1 q2 q3
        go_wp2_with fail
        refine HSR.out.mono ?_
        rintro e w5 ⟨rfl, L', hp, hs, ho, hb5⟩
        have hll := hp.length_eq
        have hb6 := (hb5.block w.heap.size (Nat.lt_succ_self _)).trans HQ1.out
        have kb5 := blk_cell (i := 0) hb6 rfl
        have HP := Kp.mk hp
        have HSS := Kp.mk hs
        have HO := Kp.mk ho
        have HB5 := Kp.mk hb5
        clear hp hs ho hb5 hb6 kb
        go_wp2_with fail
        go_ret
        refine ⟨vb, L', rfl, ?_, HI.out.bl.trans (HB5.out.mono (Nat.le_succ _)), ?_, ?_, HSS.out, fun p hp => ?_, fun x hw hq => ?_⟩
        · rw [hll]
          exact own_upT HO.out (Nat.le_succ _)
        · have := HLE.out; omega
        · exact (HP.out.map _).nodup_iff.2 HC.out.nd
        · obtain ⟨r1, r2, r3, -⟩ := HC.out.ok p (HP.out.mem_iff.1 hp)
          exact ⟨r1, r2, r3⟩
        · exact (HP.out.map _).mem_iff.2 (HDN.out x hw hq)
      · intro x cc w1 cnt1 hwx hwc hlx hat hrg1 hlt hg1 hs1 hen
        have HFX := Mti.val HF.out hwx hat
        have HCL := Kp.mk (HC.out.strike hwx hlx HFX)
        have HRG1 := Kp.mk hrg1
        have HLT := Kp.mk hlt
        obtain ⟨vb, q1, q2, q3⟩ := HBB.out
        have hb1 : Bxi (w.heap.size + 1) w.heap.size L w1 := ⟨vb, (hg1.block _ (blk_lt q1) (fun e => by injection e with e; have := HS2.out; omega)).trans q1, q2.kept hg1 (.inr (own_iterTi q2 hrgR)), q3⟩
        have hnL : L.length ≤ 10000 := by have := HLE.out; have := HN.out; omega
        have HCO := Kp.mk (tcloi_any (w.heap.size + 1) w.heap.size L x cc w1 hb1 hnL (by have := HI.out.sz; have := HS2.out; omega))
        have HBL1 := Kp.mk (show RowKit.Below w.heap.size w w1 from HI.out.bl.grown hg1 HI.out.bl.size (fun k hk => by injection hk with hk; have := HS2.out; omega))
        have HSZ1 := Kp.mk (show W2.heap.size < w1.heap.size by have := HI.out.sz; omega)
        have HLQ := Kp.mk (show cnt1 < wr.rangeLeft m W2.heap.size by rw [hrgR.left_eq]; exact hlt)
        clear hwx hwc hlx hat hrg1 hlt hg1 hs1 hb1 q1 q2 q3 HFX hnL k0 kb
        go_wp2_with fail
        refine HCO.out.mono ?_
        rintro e w2 ⟨rfl, hb2, hk2⟩
        have HR2 := Kp.mk (rg_keepTi HRG1.out (hk2.low _ HRG1.out.owns.lt (by have := HM.out.2; omega) (by have := HM.out.2; omega)) (hk2.block _ HSZ1.out (by have := HS2.out; omega) (it_noTi HRG1.out)))
        have HBB2 := Kp.mk hb2
        have HBL2 := Kp.mk (show RowKit.Below w.heap.size w w2 from HBL1.out.trans ⟨hk2.os, hk2.tape, hk2.output, hk2.size, fun k hk => hk2.low k (Nat.lt_of_lt_of_le hk HBL1.out.size) (by omega) (by omega)⟩)
        have HSZ2 := Kp.mk (show W2.heap.size < w2.heap.size from Nat.lt_of_lt_of_le HSZ1.out hk2.size)
        clear hb2 hk2 hrgR hen
        go_wp2_with fail
        go_roundw
        case rel => exact ⟨_, cnt1, HR2.out, ⟨_, HCL.out, HBB2.out, by have := HLE.out; have := HLT.out; split <;> simp <;> omega⟩, HBL2.out, HSZ2.out, HI.out.ws⟩
        case measure => rw [HR2.out.left_eq]; exact HLQ.out
end Go.Proofs.Ytocnecbhpofdgaa
