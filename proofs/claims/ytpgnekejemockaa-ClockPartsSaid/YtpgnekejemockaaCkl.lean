/- Who is due (layer 41): the law ClockParts (bin/mkckl.py). -/
import Derived.Test.YtpgnekejemockaaCkk
namespace Go.Proofs.Ytpgnekejemockaa
open Go.RowKit
set_option linter.unusedVariables false
set_option linter.unusedSimpArgs false

theorem tkI_id {n : Int} (h0 : 0 ≤ n) (h1 : n ≤ 1073741824) : tkI n = n := by unfold tkI; rw [if_neg (by omega), if_neg (by omega)]
theorem cutF_cutF (F : Int → Option Int) {S T : Int} (h : S ≤ T) : cutF (cutF F S) T = cutF F T := by
  funext id
  cases hf : F id with
  | none => rw [cutF_none hf, cutF_none (cutF_none hf)]
  | some v =>
    by_cases h1 : v ≤ S
    · rw [cutF_none (cutF_le hf h1), cutF_le hf (by omega)]
    · by_cases h2 : v ≤ T
      · rw [cutF_le (cutF_gt hf h1) h2, cutF_le hf h2]
      · rw [cutF_gt (cutF_gt hf h1) h2, cutF_gt hf h2]
/-- Two clocks, one beside the other. -/
structure Two (b1 m1 b2 m2 n : Nat) (S : Int) (G F : Int → Option Int) (w wr : World) : Prop where
  c1 : CK b1 m1 n S G wr
  c2 : CK b2 m2 n 0 F wr
  s : b1 ≠ b2 ∧ b1 ≠ m2 ∧ m1 ≠ b2 ∧ m1 ≠ m2
  bl : Below w.heap.size w wr
  h : w.heap.size ≤ b1 ∧ w.heap.size ≤ m1 ∧ w.heap.size ≤ b2 ∧ w.heap.size ≤ m2
theorem Two.below {b1 m1 b2 m2 n : Nat} {S : Int} {G F : Int → Option Int} {w wr w' : World} (h : Two b1 m1 b2 m2 n S G F w wr) (hb : Below wr.heap.size wr w') : Two b1 m1 b2 m2 n S G F w w' :=
  ⟨h.c1.below hb, h.c2.below hb, h.s, h.bl.trans (hb.mono h.bl.size), h.h⟩
theorem Two.first {b1 m1 b2 m2 n : Nat} {S S' : Int} {G G' F : Int → Option Int} {w wr w' : World} (h : Two b1 m1 b2 m2 n S G F w wr) (hk : Kpt (fun j => j ≠ b1 ∧ j ≠ m1) wr w') (hc : CK b1 m1 n S' G' w') : Two b1 m1 b2 m2 n S' G' F w w' :=
  ⟨hc, h.c2.kept (hk.block _ (blk_lt h.c2.hb) ⟨fun e => h.s.1 e.symm, fun e => h.s.2.2.1 e.symm⟩) (hk.block _ h.c2.mlt ⟨fun e => h.s.2.1 e.symm, fun e => h.s.2.2.2 e.symm⟩), h.s,
    h.bl.trans (hk.below h.bl.size fun j hj => by have := h.h; omega), h.h⟩
theorem Two.grown {b1 m1 b2 m2 n B : Nat} {S : Int} {G F : Int → Option Int} {w wr w' : World} (h : Two b1 m1 b2 m2 n S G F w wr) (hb : Below B wr w') (h1 : b1 < B ∧ m1 < B ∧ b2 < B ∧ m2 < B) (hB : w.heap.size ≤ B) : Two b1 m1 b2 m2 n S G F w w' :=
  ⟨h.c1.kept (hb.block _ h1.1) (hb.block _ h1.2.1), h.c2.kept (hb.block _ h1.2.2.1) (hb.block _ h1.2.2.2), h.s, h.bl.trans (hb.mono hB), h.h⟩
theorem Two.lt {b1 m1 b2 m2 n : Nat} {S : Int} {G F : Int → Option Int} {w wr : World} (h : Two b1 m1 b2 m2 n S G F w wr) : b1 < wr.heap.size ∧ m1 < wr.heap.size ∧ b2 < wr.heap.size ∧ m2 < wr.heap.size := ⟨blk_lt h.c1.hb, h.c1.mlt, blk_lt h.c2.hb, h.c2.mlt⟩
/-- What has been told by then, and who still waits. -/
structure PtS (k : Nat) (S : Int) (G F : Int → Option Int) (al : List Int) : Prop where
  g1 : ∀ x v, G x = some v → F x = some v ∧ (k = 0 ∨ S < v)
  g2 : ∀ T, S ≤ T → cutF G T = cutF F T
  g3 : 0 < k → G = cutF F S
  m1 : ∀ x, (Lit.int .i64 x).wf = true → (x ∈ al ↔ ∃ v, F x = some v ∧ G x = none)
  m2 : ∀ x ∈ al, ∀ v, F x = some v → v ≤ S
  m3 : k = 0 → al = []
  pw : al.Pairwise (ltW F)
  wf : ∀ x ∈ al, (Lit.int .i64 x).wf = true
  s0 : 0 ≤ S
  s1 : S ≤ 1073741824
theorem PtS.start (F : Int → Option Int) : PtS 0 0 F F [] :=
  ⟨fun x v h => ⟨h, Or.inl rfl⟩, fun _ _ => rfl, fun h => (by omega), fun x _ => ⟨fun h => (by cases h), fun ⟨v, h1, h2⟩ => (by rw [h1] at h2; cases h2)⟩, fun x h => (by cases h), fun _ => rfl, List.Pairwise.nil, fun x h => (by cases h), by omega, by omega⟩
theorem PtS.next {k : Nat} {S T : Int} {G F : Int → Option Int} {al l : List Int} (h : PtS k S G F al) (hT : S ≤ T) (hT2 : T ≤ 1073741824) (hp : l.Pairwise (ltW G)) (hw : ∀ x ∈ l, (Lit.int .i64 x).wf = true) (hm : ∀ x, (Lit.int .i64 x).wf = true → (x ∈ l ↔ ∃ v, G x = some v ∧ v ≤ T)) : PtS (k + 1) T (cutF G T) F (al ++ l) := by
  have e := h.g2 T hT
  rw [e]
  refine ⟨fun x v hx => ?_, fun U hU => cutF_cutF F hU, fun _ => rfl, fun x hx => ?_, fun x hx v hv => ?_, fun h => by omega, ?_, fun x hx => ?_, by have := h.s0; omega, hT2⟩
  · obtain ⟨h1, h2⟩ := cutF_some hx
    exact ⟨h1, Or.inr (by omega)⟩
  · rw [List.mem_append, h.m1 x hx, hm x hx]
    constructor
    · rintro (⟨v, h1, h2⟩ | ⟨v, h1, h2⟩)
      · exact ⟨v, h1, cutF_le h1 (by have := h.m2 x ((h.m1 x hx).2 ⟨v, h1, h2⟩) v h1; omega)⟩
      · have := (h.g1 x v h1).1
        exact ⟨v, this, cutF_le this h2⟩
    · rintro ⟨v, h1, h2⟩
      have hv : v ≤ T := by
        by_cases hv : v ≤ T
        · exact hv
        · rw [cutF_gt h1 hv] at h2; cases h2
      cases hg : G x with
      | none => exact Or.inl ⟨v, h1, rfl⟩
      | some u =>
        have := (h.g1 x u hg).1
        rw [h1] at this
        cases this
        exact Or.inr ⟨v, rfl, hv⟩
  · rcases List.mem_append.1 hx with h9 | h9
    · have := h.m2 x h9 v hv; omega
    · obtain ⟨u, h1, h2⟩ := (hm x (hw x h9)).1 h9
      have := (h.g1 x u h1).1
      rw [hv] at this
      cases this
      exact h2
  · refine List.pairwise_append.2 ⟨h.pw, hp.imp_of_mem fun {a c} ha hc hac => ?_, fun a ha c hc => ?_⟩
    · obtain ⟨u, h1, _⟩ := (hm a (hw a ha)).1 ha
      obtain ⟨v, h2, _⟩ := (hm c (hw c hc)).1 hc
      have g1 := (h.g1 a u h1).1
      have g2 := (h.g1 c v h2).1
      unfold ltW at hac ⊢
      rw [h1, h2] at hac
      rw [g1, g2]
      exact hac
    · obtain ⟨v, h2, _⟩ := (hm c (hw c hc)).1 hc
      obtain ⟨g2, g3⟩ := h.g1 c v h2
      rcases g3 with g3 | g3
      · rw [h.m3 g3] at ha; cases ha
      · obtain ⟨u, h1, _⟩ := (h.m1 a (h.wf a ha)).1 ha
        have h4 := h.m2 a ha u h1
        unfold ltW
        rw [h1, g2]
        left
        show u < v
        omega
  · rcases List.mem_append.1 hx with h9 | h9
    · exact h.wf x h9
    · exact hw x h9
theorem inN_of {P : Program} {w : World} {t : TypeId} {E : List Value} (ht : P.underlying t = some (.int .i64)) (h : Rdb P w t E) : ∃ x : Int, E = inC x ∧ (Lit.int .i64 x).wf = true := by
  obtain ⟨x, hx, hz⟩ := h.int ht
  exact ⟨x, hx, hz⟩
theorem ints_arg (v1 : Value) (w : World) (h1 : Arg Try.prog w 38 v1) : ∃ qs, RdN w v1 qs ∧ ∀ x ∈ qs, (Lit.int .i64 x).wf = true :=
  h1.list (f := inC) (Q := fun x => (Lit.int .i64 x).wf = true) Try.underlying38 Try.fcellsCI (by omega) fun E hE => inN_of Try.underlying3 hE
theorem app_ins {P : Program} {wr : World} {ops : Array Oper} {rest : List Oper} {o : Oper} {a : Act} {Q : Exit → Act → World → Prop} (hgd : o.guard = none) (s x : Operand) (t e : TypeId)
    (ho : o.op = .call { callee := .builtin .append, args := #[s, x], argTypes := #[t, t] }) (ht : P.underlying t = some (.slice e)) (z : Value)
    (hi : (P.info? e).map (fun i => (i.zero, i.size, i.bytes)) = some (some z, 1, 8)) (hz : z.cells.size = 1) (B : Nat) (v : Value) (n : Nat) (xs : List Value) (hs : a.eval s = v) (hown : wr.ownsRow B e 1 v n xs)
    (vx : Value) (hx : a.eval x = vx) (l : List Int) (hv : RdN wr vx l) (hlen : (n + l.length) * 8 ≤ 140737488355328) (hm : n + l.length ≤ maxLen) (hB : B ≤ wr.heap.size)
    (h : ∀ v' w', w'.ownsRow B e 1 v' (n + l.length) (xs ++ inL l) → wr.grownBy w' v.ownBlock → wpList P ops Q rest (a.put o.dst v') w') :
    wpList P ops Q (o :: rest) a wr := by
  obtain ⟨i0, hi, hz0, hz1, hz2⟩ := info_parts hi
  obtain ⟨ad, c, rfl, hc1, hc2, h4⟩ := hv
  cases ad with
  | none =>
    have hl : l = [] := by
      rcases Nat.eq_zero_or_pos l.length with h0 | h0
      · exact List.eq_nil_of_length_eq_zero h0
      · obtain ⟨b, off, hb, _⟩ := h4 h0
        cases hb
    subst hl
    refine wpList_plain hgd fun K hK => ?_
    have hrun := run_append_zero (P := P) (w := wr) B t o.type e i0 1 ht hi v n xs hown c
    have := h v wr (by simpa [inL] using hown) ⟨rfl, rfl, rfl, Nat.le_refl _, fun _ _ _ => rfl⟩
    unfold Oper.wp
    simp only [List.length_nil] at hx
    simp [execOp, ho, resolve, invoke, builtin, hs, hx, hrun, Result.andThen]
    exact hK _ _ this
  | some ad =>
    refine wpList_append_own _ hgd s x t ho B e i0 z 1 8 ht hi hz0 hz1 hz2 hz (by omega) v n xs hs hown ad l.length c (inL l) hx (by rw [inL_len, Nat.mul_one]) ?_ (fun u hu => by
      obtain ⟨y, _, rfl⟩ := List.mem_map.1 hu
      rfl) hm hlen hB fun v' w' g1 g2 _ => h v' w' g1 g2
    intro j u hj
    have h0 : 0 < l.length := by
      have := (List.getElem?_eq_some_iff.1 hj).1
      rw [inL_len] at this
      omega
    obtain ⟨b, off, hb, hbl, hcell⟩ := h4 h0
    cases hb
    unfold inL at hj
    rw [List.getElem?_map] at hj
    by_cases hjl : j < l.length
    · rw [List.getElem?_eq_getElem hjl] at hj
      have := hcell j hjl 0 (by omega)
      have e2 : (⟨b, off, none⟩ : Addr).add j = ⟨b, off + j, none⟩ := by cases j <;> simp [Addr.add]
      rw [e2]
      simp [inC] at this
      rw [this]
      simpa using hj
    · rw [List.getElem?_eq_none (by omega)] at hj
      cases hj
/-- The loop over the parts. -/
structure PtI (b1 m1 b2 m2 n k : Nat) (S : Int) (G F : Int → Option Int) (al : List Int) (B : Nat) (v : Value) (w wr : World) : Prop where
  t : Two b1 m1 b2 m2 n S G F w wr
  p : PtS k S G F al
  o : wr.ownsRow B 3 1 v al.length (inL al)
  l : al.length ≤ k * 100
  bs : b1 < B ∧ m1 < B ∧ b2 < B ∧ m2 < B
  hB : B ≤ wr.heap.size
  wB : w.heap.size ≤ B
theorem PtI.below {b1 m1 b2 m2 n k : Nat} {S : Int} {G F : Int → Option Int} {al : List Int} {B : Nat} {v : Value} {w wr w' : World} (h : PtI b1 m1 b2 m2 n k S G F al B v w wr) (hb : Below wr.heap.size wr w') : PtI b1 m1 b2 m2 n k S G F al B v w w' :=
  ⟨h.t.below hb, h.p, own_below h.o hb, h.l, h.bs, Nat.le_trans h.hB hb.size, h.wB⟩
set_option maxRecDepth 100000 in
set_option maxHeartbeats 1500000 in
theorem cparts_walk (v1 v2 : Value) (ps : List CAc) (qs : List Int) (w : World) (hv1 : RdL cactC 3 w v1 ps) (hv2 : RdN w v2 qs) (hz : ∀ p ∈ ps, (Lit.int .i64 p.1).wf = true ∧ (Lit.int .i64 p.2.1).wf = true ∧ (Lit.int .i64 p.2.2).wf = true) :
    Calls Try.prog 4 #[v1, v2] w fun e w' => e = .returned (.bool true) ∧ Below w.heap.size w w' := by
  have HV1 := Kp.mk hv1
  have HV2 := Kp.mk hv2
  have HZ := Kp.mk hz
  obtain ⟨a1, cap1, rfl, hc1, hc2, -⟩ := hv1
  obtain ⟨a2, cap2, rfl, hc3, hc4, -⟩ := hv2
  have hll : ps.length ≤ 9223372036854775807 := by unfold maxLen at hc2; omega
  have hll2 : qs.length ≤ 9223372036854775807 := by unfold maxLen at hc4; omega
  clear hc2 hc4 hz hc1 hc3
  go_enter Try.func4, Try.ntmps4
  go_wp2_with fail
  refine (cset_nil _ _ _).mono ?_
  rintro e w1 ⟨⟨x1, rfl⟩, rfl⟩
  go_wp2_with fail
  refine (cstop_nil _ _).mono ?_
  rintro e w1 ⟨⟨x2, rfl⟩, rfl⟩
  go_wp2_with fail
  refine (cleft_nil _ _).mono ?_
  rintro e w1 ⟨rfl, rfl⟩
  go_wp2_with fail
  refine (ctick_nil _ _).mono ?_
  rintro e w1 ⟨rfl, hb1⟩
  have HB1 := Kp.mk hb1
  clear hb1
  go_wp2_with fail
  refine (cnow_nil _).mono ?_
  rintro e w9 ⟨rfl, rfl⟩
  by_cases hn : 100 < ps.length
  · have q1 : (100 : Int) < (ps.length : Int) := by omega
    go_wp2_with fail
    refine (lives41_any _).mono ?_
    rintro e w2 ⟨rfl, hb2⟩
    go_wp2_with fail
    go_ret
    exact ⟨rfl, HB1.out.trans (hb2.mono HB1.out.size)⟩
  · have q1 : ¬ (100 : Int) < (ps.length : Int) := by omega
    by_cases hn2 : 100 < qs.length
    · have q2 : (100 : Int) < (qs.length : Int) := by omega
      go_wp2_with fail
      refine (lives41_any _).mono ?_
      rintro e w2 ⟨rfl, hb2⟩
      go_wp2_with fail
      go_ret
      exact ⟨rfl, HB1.out.trans (hb2.mono HB1.out.size)⟩
    · have q2 : ¬ (100 : Int) < (qs.length : Int) := by omega
      go_wp2_with fail
      refine (cnew_any 0 _ (by omega) (by omega)).mono ?_
      rintro e wa ⟨b1, m1, rfl, hca, hba, hb1, hm1⟩
      have HCA := Kp.mk hca
      have HBA := Kp.mk hba
      have hs1 := hba.size
      have hla := blk_lt hca.hb
      have hlm := hca.mlt
      clear hca hba
      go_wp2_with fail
      refine (cnew_any 0 _ (by omega) (by omega)).mono ?_
      rintro e wb ⟨b2, m2, rfl, hcb, hbb, hb2, hm2⟩
      have HT0 := Kp.mk (show Two b1 m1 b2 m2 0 0 (fun _ => none) (fun _ => none) w wb from
        ⟨HCA.out.below hbb, hcb, by omega, (HB1.out.trans (HBA.out.mono HB1.out.size)).trans (hbb.mono (by have := HB1.out.size; omega)), by have := HB1.out.size; omega⟩)
      clear hcb hbb hb1 hm1 hb2 hm2 hs1 hla hlm
      go_wp2_with fail
      go_loopw [55] (fun i wr => ∃ (k : Nat) (F : Int → Option Int), k ≤ ps.length ∧ i = .int .i64 k ∧ Two b1 m1 b2 m2 k 0 F F w wr ∧ ∀ x v, F x = some v → 0 ≤ v ∧ v ≤ 1073741824) (fun i _ => ps.length - (intOf i).toNat)
      case atStart => exact ⟨0, _, by omega, rfl, HT0.out, fun x v h => by cases h⟩
      case round =>
        obtain ⟨k, F, hk, rfl, hT, hF⟩ := hrel
        have HT := Kp.mk hT
        have HFB := Kp.mk hF
        clear hT hF
        by_cases hlt : k < ps.length
        · obtain ⟨g9, o, rfl, hgl, d0⟩ := cact_cells (HV1.out.below HT.out.bl) (by omega)
          obtain ⟨c1, c2, c3⟩ := d0 k hlt
          have q3 : (k : Int) < (ps.length : Int) := by omega
          have HP := Kp.mk (HZ.out _ (List.getElem_mem hlt))
          generalize ps[k] = p at *
          obtain ⟨d, id, x⟩ := p
          dsimp only at c1 c2 c3
          have HW1 := Kp.mk HP.out.2.1
          have hbx := heap_alloc_new wr (.cells #[.int .i64 d, .int .i64 id, .int .i64 x] 28)
          have b0 := blk_cell (i := 0) hbx rfl
          have b1' := blk_cell (i := 1) hbx rfl
          have b2' := blk_cell (i := 2) hbx rfl
          have HBX := Kp.mk hbx
          have HJ := Kp.mk (HT.out.below ((Below.refl _ _).alloc (Nat.le_refl _) (.cells #[.int .i64 d, .int .i64 id, .int .i64 x] 28)))
          have HLT := Kp.mk HT.out.lt
          clear hbx d0
          go_wp2_with fail
          refine (cset_any b1 m1 k 0 F id x _ HJ.out.c1 HW1.out (by unfold maxLen; omega) (by omega)).mono ?_
          rintro e w1 ⟨⟨x9, rfl⟩, hc, hk1⟩
          have HC1 := Kp.mk hc
          have HK1 := Kp.mk hk1
          have hbx1 := (hk1.block _ (blk_lt HBX.out) (fun e => by have := HLT.out; omega)).trans HBX.out
          have x1 := blk_cell (i := 1) hbx1 rfl
          have x2 := blk_cell (i := 2) hbx1 rfl
          have HC2 := Kp.mk (HJ.out.c2.kept (hk1.block _ (blk_lt HJ.out.c2.hb) (fun e => HJ.out.s.2.2.1 e.symm)) (hk1.block _ HJ.out.c2.mlt (fun e => HJ.out.s.2.2.2 e.symm)))
          clear hc hk1 hbx1 b0 b1' b2'
          go_wp2_with fail
          refine (cset_any b2 m2 k 0 F id x _ HC2.out HW1.out (by unfold maxLen; omega) (by omega)).mono ?_
          rintro e w2 ⟨⟨x9, rfl⟩, hc, hk2⟩
          have HT2 := Kp.mk (show Two b1 m1 b2 m2 (k + 1) 0 (setF F id (0 + tkI x)) (setF F id (0 + tkI x)) w w2 from
            ⟨HC1.out.kept (hk2.block _ (blk_lt HC1.out.hb) HJ.out.s.2.1) (hk2.block _ HC1.out.mlt HJ.out.s.2.2.2), hc, HJ.out.s, (HJ.out.bl.trans (HK1.out.below HJ.out.bl.size fun j hj => by have := HJ.out.h; omega)).trans (hk2.below (by have := HJ.out.bl.size; have := HK1.out.size; omega) fun j hj => by have := HJ.out.h; omega), HJ.out.h⟩)
          have HF2 := Kp.mk (show ∀ y v, setF F id (0 + tkI x) y = some v → 0 ≤ v ∧ v ≤ 1073741824 from fun y v h => by
            unfold setF at h
            have ht := tkI_in x
            split at h
            · cases h; omega
            · exact HFB.out y v h)
          clear hc hk2
          go_wp2_with fail
          go_roundw
          case rel => exact ⟨k + 1, _, by omega, by go_num, HT2.out, HF2.out⟩
          case measure => simp [intOf]; omega
        · have hkl : k = ps.length := by omega
          subst hkl
          have hkk : ps.length ≤ 100 := by omega
          have HLT := Kp.mk HT.out.lt
          generalize hpl : ps.length = n at *
          obtain ⟨B, HI0⟩ : ∃ B, Kp (PtI b1 m1 b2 m2 n 0 0 F F [] B (.slice (some ⟨wr.heap.size, 0, none⟩) 0 0) w (wr.alloc (.cells #[] 3))) := ⟨wr.heap.size, Kp.mk (show PtI b1 m1 b2 m2 n 0 0 F F [] wr.heap.size (.slice (some ⟨wr.heap.size, 0, none⟩) 0 0) w (wr.alloc (.cells #[] 3)) from
            ⟨HT.out.below ((Below.refl _ _).alloc (Nat.le_refl _) _), PtS.start F, World.ownsRow_lit (base := wr.heap.size) (e := 3) (size := 1) wr #[] 0 (Nat.le_refl _) (by unfold maxLen; omega) rfl, Nat.zero_le _, HLT.out, by simp, HT.out.bl.size⟩)⟩
          go_wp2_with fail
          go_loopw [12, 13, 75] (fun av sv i wr => ∃ (k : Nat) (S : Int) (G : Int → Option Int) (al : List Int), k ≤ qs.length ∧ i = .int .i64 k ∧ sv = .int .i64 S ∧ PtI b1 m1 b2 m2 n k S G F al B av w wr) (fun _ _ i _ => qs.length - (intOf i).toNat)
          case atStart => exact ⟨0, 0, F, [], by omega, rfl, rfl, HI0.out⟩
          case round =>
            obtain ⟨k, S, G, al, hk, rfl, rfl, hI⟩ := hrel
            have HI := Kp.mk hI
            have hS0 := hI.p.s0
            have hS1 := hI.p.s1
            clear hI
            by_cases hlt : k < qs.length
            · obtain ⟨g9, o, rfl, hgl, d0⟩ := rdn_cells (HV2.out.below HI.out.t.bl) (by omega)
              have c1 := d0 k hlt
              have q3 : (k : Int) < (qs.length : Int) := by omega
              generalize qs[k] = q at *
              have hT := tkI_in q
              have HWI := Kp.mk (fun (w : World) => within41_any q w)
              generalize tkI q = T at *
              have w1 : IntKind.i64.wrap (1073741824 - S) = 1073741824 - S := by simp [IntKind.wrap, IntKind.signed, IntKind.bits, wrap64]; omega
              have w2 : IntKind.i64.wrap (S + T) = S + T := by simp [IntKind.wrap, IntKind.signed, IntKind.bits, wrap64]; omega
              clear d0
              by_cases hfar : 1073741824 - S < T
              · go_wp2_with fail
                refine (HWI.out _).mono ?_
                rintro e w9 ⟨rfl, rfl⟩
                go_wp2_with fail
                refine (lives41_any _).mono ?_
                rintro e w2 ⟨rfl, hb2⟩
                go_wp2_with fail
                go_ret
                exact ⟨rfl, HI.out.t.bl.trans (hb2.mono HI.out.t.bl.size)⟩
              · have HTK := Kp.mk (show ∀ w, CK b1 m1 n S G w → Calls Try.prog 17 #[.pointer (some ⟨b1, 0, none⟩), .int .i64 T] w (TickC b1 m1 n S G T w) from fun w h => by
                  have := ctick_any b1 m1 n S G T w h (by omega) (by omega)
                  rw [tkI_id hT.1 hT.2] at this
                  exact this)
                go_wp2_with fail
                refine (HWI.out _).mono ?_
                rintro e w9 ⟨rfl, rfl⟩
                go_wp2_with fail
                refine (HTK.out _ HI.out.t.c1).mono ?_
                rintro e w4 ⟨va, l, rfl, ho4, hc4, hk4, hp4, hw4, hm4, hn4⟩
                have HT4 := Kp.mk (HI.out.t.first hk4 hc4)
                have HP4 := Kp.mk (HI.out.p.next (T := S + T) (by omega) (by omega) hp4 hw4 hm4)
                have HO4 := Kp.mk ho4
                have HAL := Kp.mk (own_kk HI.out.o hk4 (fun j hj => by have := HI.out.bs; omega))
                have HSZ := Kp.mk hk4.size
                have HM4 := Kp.mk (show ∀ x ∈ l, ∃ v, F x = some v ∧ v ≤ S + T ∧ (k = 0 ∨ S < v) from fun x hx => by
                  obtain ⟨v, h1, h2⟩ := (hm4 x (hw4 x hx)).1 hx
                  have := HI.out.p.g1 x v h1
                  exact ⟨v, this.1, h2, this.2⟩)
                have HW4 := Kp.mk hw4
                have HLN := Kp.mk hn4
                have hn5 : l.length ≤ 100 := by omega
                obtain ⟨a4, c4, rfl⟩ := own_lenH ho4
                clear ho4 hc4 hk4 hp4 hw4 hm4 hn4
                go_wp2_with fail
                go_loopw [92] (fun i wr => ∃ j : Nat, j ≤ l.length ∧ i = .int .i64 j ∧ wr = w4) (fun i _ => l.length - (intOf i).toNat)
                case atStart => exact ⟨0, by omega, rfl, rfl⟩
                case round =>
                  obtain ⟨j, hj, rfl, rfl⟩ := hrel
                  by_cases hjl : j < l.length
                  · obtain ⟨g5, o5, rfl, hgl5, d5⟩ := rdn_cells (rdn_own HO4.out) (by omega)
                    have c5 := d5 j hjl
                    have q5 : (j : Int) < (l.length : Int) := by omega
                    obtain ⟨v, hFv, hvT, hvS⟩ := HM4.out _ (List.getElem_mem hjl)
                    have HX := Kp.mk (HW4.out _ (List.getElem_mem hjl))
                    generalize l[j] = x at *
                    have HLF := Kp.mk (show Calls Try.prog 13 #[.pointer (some ⟨b2, 0, none⟩), .int .i64 x] wr fun e w' => e = .returned (.tuple #[.int .i64 v, .bool true]) ∧ wr = w' by
                      have h1 := HFB.out x v hFv
                      have := cleft_any b2 m2 n 0 F x wr HT4.out.c2 HX.out (fun u hu => by rw [hFv] at hu; cases hu; omega)
                      rw [show lfV F x 0 = v by unfold lfV; rw [hFv]; exact Int.sub_zero v, hFv] at this
                      exact this)
                    have r1 : ¬ S + T < v := by omega
                    clear d5 hFv
                    by_cases hk0 : ¬ (0 < k)
                    · have k0 : ¬ (0 : Int) < (k : Int) := by omega
                      clear hk0 hvS
                      by_cases hvs : v ≤ S
                      · go_wp2_with fail
                        refine HLF.out.mono ?_
                        rintro e w2 ⟨rfl, rfl⟩
                        go_wp2_with fail
                        go_roundw
                        case rel => exact ⟨j + 1, by omega, by go_num, by trivial⟩
                        case measure => simp [intOf]; omega
                      · go_wp2_with fail
                        refine HLF.out.mono ?_
                        rintro e w2 ⟨rfl, rfl⟩
                        go_wp2_with fail
                        go_roundw
                        case rel => exact ⟨j + 1, by omega, by go_num, by trivial⟩
                        case measure => simp [intOf]; omega
                    · have r2 : ¬ v ≤ S := by omega
                      clear hk0 hvS
                      go_wp2_with fail
                      refine HLF.out.mono ?_
                      rintro e w2 ⟨rfl, rfl⟩
                      go_wp2_with fail
                      go_roundw
                      case rel => exact ⟨j + 1, by omega, by go_num, by trivial⟩
                      case measure => simp [intOf]; omega
                  · have hlen : (al.length + l.length) * 8 ≤ 140737488355328 := by have := HI.out.l; omega
                    have hmx : al.length + l.length ≤ maxLen := by have := HI.out.l; unfold maxLen; omega
                    have hBw : B ≤ wr.heap.size := by have := HI.out.hB; have := HSZ.out; omega
                    go_wp2_with (at_builtin; refine app_ins rfl _ _ _ _ rfl Try.underlying38 _ Try.infoIn rfl B _ al.length _ rfl HAL.out _ rfl l (rdn_own HO4.out) hlen hmx hBw ?_; intro v9 w9 h1 h2; have G1 := Kp.mk h1; have G2 := Kp.mk h2; clear h1 h2)
                    have HGB := Kp.mk ((Below.refl B _).grown G2.out hBw (fun j hj => (HAL.out.lt j hj).1))
                    have HN := Kp.mk (show PtI b1 m1 b2 m2 n (k + 1) (S + T) (cutF G (S + T)) F (al ++ l) B v9 w w9 from
                      ⟨HT4.out.grown HGB.out HI.out.bs HI.out.wB, HP4.out, by
                        rw [List.length_append, show inL (al ++ l) = inL al ++ inL l by simp [inL]]
                        exact G1.out, by have := HI.out.l; simp; omega, HI.out.bs, Nat.le_trans hBw HGB.out.size, HI.out.wB⟩)
                    go_wp2_with fail
                    go_roundw
                    case rel => exact ⟨k + 1, S + T, _, _, by omega, by go_num, rfl, HN.out⟩
                    case measure => simp [intOf]; omega
            · have hkq : k = qs.length := by omega
              subst hkq
              by_cases hq0 : qs.length = 0
              · have q0 : ((qs.length : Int) == 0) = true := by simp [hq0]
                go_wp2_with fail
                refine (lives41_any _).mono ?_
                rintro e w2 ⟨rfl, hb2⟩
                go_wp2_with fail
                go_ret
                exact ⟨rfl, HI.out.t.bl.trans (hb2.mono HI.out.t.bl.size)⟩
              · have q0 : ((qs.length : Int) == 0) = false := by rw [beq_eq_false_iff_ne]; omega
                have n1 : (S == S) = true := by simp
                have HTK := Kp.mk (show ∀ w, CK b2 m2 n 0 F w → Calls Try.prog 17 #[.pointer (some ⟨b2, 0, none⟩), .int .i64 S] w (TickC b2 m2 n 0 F S w) from fun w h => by
                  have := ctick_any b2 m2 n 0 F S w h (by omega) (by omega)
                  rw [tkI_id hS0 hS1] at this
                  exact this)
                have hq1 : 0 < qs.length := by omega
                have HQ1 := Kp.mk hq1
                go_wp2_with fail
                refine (HTK.out _ HI.out.t.c2).mono ?_
                rintro e w4 ⟨va, l, rfl, ho4, hc4, hk4, hp4, hw4, hm4, hn4⟩
                rw [Int.zero_add] at hc4 hm4
                have hal : al = l := ltW_uniq HI.out.p.pw hp4 fun x => by
                  constructor
                  · intro hx
                    have hxw := HI.out.p.wf x hx
                    obtain ⟨v, h1, h2⟩ := (HI.out.p.m1 x hxw).1 hx
                    exact (hm4 x hxw).2 ⟨v, h1, HI.out.p.m2 x hx v h1⟩
                  · intro hx
                    have hxw := hw4 x hx
                    obtain ⟨v, h1, h2⟩ := (hm4 x hxw).1 hx
                    exact (HI.out.p.m1 x hxw).2 ⟨v, h1, by rw [HI.out.p.g3 HQ1.out]; exact cutF_le h1 h2⟩
                subst hal
                have HC1 := Kp.mk (HI.out.t.c1.kept (hk4.block _ (blk_lt HI.out.t.c1.hb) ⟨HI.out.t.s.1, HI.out.t.s.2.1⟩) (hk4.block _ HI.out.t.c1.mlt ⟨HI.out.t.s.2.2.1, HI.out.t.s.2.2.2⟩))
                have HC2 := Kp.mk hc4
                have HO4 := Kp.mk ho4
                have HAL := Kp.mk (own_kk HI.out.o hk4 (fun j hj => by have := HI.out.bs; omega))
                have HB4 := Kp.mk (HI.out.t.bl.trans (hk4.below HI.out.t.bl.size fun j hj => by have := HI.out.t.h; omega))
                clear ho4 hc4 hk4 hp4 hw4 hm4 hn4
                go_wp2_with fail
                refine (sameI_eq _ _ _ _ (rdn_own HAL.out) (rdn_own HO4.out) (by have := HI.out.l; omega)).mono ?_
                rintro e w5 ⟨rfl, hb5⟩
                have HB5 := Kp.mk (HB4.out.trans (hb5.mono HB4.out.size))
                have HD1 := Kp.mk (HC1.out.below hb5)
                have HD2 := Kp.mk (HC2.out.below hb5)
                clear hb5
                go_wp2_with fail
                refine (cnow_any b1 m1 n S _ _ HD1.out).mono ?_
                rintro e w6 ⟨rfl, rfl⟩
                go_wp2_with fail
                refine (cnow_any b2 m2 n S _ _ HD2.out).mono ?_
                rintro e w6 ⟨rfl, rfl⟩
                go_wp2_with fail
                refine (lives41_any _).mono ?_
                rintro e w7 ⟨rfl, hb7⟩
                go_wp2_with fail
                go_ret
                exact ⟨rfl, HB5.out.trans (hb7.mono HB5.out.size)⟩
theorem cparts_arg (v0 v1 : Value) (w : World) (h0 : Arg Try.prog w 22 v0) (h1 : Arg Try.prog w 38 v1) :
    Calls Try.prog 4 #[v0, v1] w fun e w' => e = .returned (.bool true) ∧ Below w.heap.size w w' := by
  obtain ⟨ps, hv, hz⟩ := cact_arg v0 w h0
  obtain ⟨qs, hv2, -⟩ := ints_arg v1 w h1
  exact cparts_walk v0 v1 ps qs w hv hv2 hz
end Go.Proofs.Ytpgnekejemockaa
