/- Pools (layer 40): the law TablePool. -/
import Derived.Test.YtgogoncpnfojkaaTbg
import Derived.Test.YtgogoncpnfojkaaTbc
namespace Go.Proofs.Ytgogoncpnfojkaa
open Go.RowKit
set_option linter.unusedVariables false
set_option linter.unusedSimpArgs false

theorem OwE.form {B : Nat} {v : Value} {L : List Ent} {w : World} (h : OwE B v L w) : ∃ a c, v = .slice a L.length c := by
  obtain ⟨a, c, h1, -⟩ := h
  exact ⟨a, c, h1⟩
theorem OwE.blk {B : Nat} {v : Value} {L : List Ent} {w : World} (h : OwE B v L w) {g : Nat} (hg : v.ownBlock = some g) : B ≤ g ∧ ∃ cur, w.heap[g]? = some (.cells cur 32 (0, 0)) := by
  obtain ⟨a, c, rfl, -, -, h4⟩ := h
  rcases h4 with ⟨rfl, -⟩ | ⟨g', q, rfl, h5, cur, h6, -⟩
  · simp [Value.ownBlock] at hg
  · simp [Value.ownBlock] at hg
    subst hg
    exact ⟨h5, cur, h6⟩
theorem pb_row {b : Nat} {v : Value} {L : List Ent} {w : World} (h : PB b v L w) {g : Nat} (hg : v.ownBlock = some g) : b < g ∧ ∃ cur, w.heap[g]? = some (.cells cur 124 (0, 0)) := by
  rcases h.hr.2 with ⟨rfl, _⟩ | ⟨g', cap, cur, rfl, h1, h2, _⟩
  · simp [Value.ownBlock] at hg
  · simp [Value.ownBlock] at hg
    subst hg
    exact ⟨h1, cur, h2⟩
theorem kinds {w : World} {g : Nat} {c1 c2 : Array Value} {t1 t2 : TypeId} {f1 f2 : Nat × Nat} (h1 : w.heap[g]? = some (.cells c1 t1 f1)) (h2 : w.heap[g]? = some (.cells c2 t2 f2)) : t1 = t2 := by
  rw [h1] at h2; cases h2; rfl
theorem OwE.onl {B b : Nat} {v vp : Value} {L L2 : List Ent} {w w' : World} (h : OwE B v L w) (hp : PB b vp L2 w) (ho : Onl b vp.ownBlock w w') : OwE B v L w' := by
  refine h.kept fun g cur hg => ho.block g (blk_lt hg) ?_ ?_
  · rintro rfl
    exact absurd (kinds hg hp.hb) (by decide)
  · intro e
    obtain ⟨-, c2, h2⟩ := pb_row hp e
    exact absurd (kinds hg h2) (by decide)
theorem pb_below {b : Nat} {v : Value} {L : List Ent} {w w' : World} (h : PB b v L w) (hb : Below w.heap.size w w') : PB b v L w' :=
  ⟨(hb.block _ (blk_lt h.hb)).trans h.hb, ⟨h.hr.1, by
    rcases h.hr.2 with h1 | ⟨g, cap, cur, h1, h2, h3, rest⟩
    · exact .inl h1
    · exact .inr ⟨g, cap, cur, h1, h2, (hb.block _ (blk_lt h3)).trans h3, rest⟩⟩⟩
theorem pb_grown {B b : Nat} {v vp : Value} {L L2 : List Ent} {w w' : World} (h : PB b vp L2 w) (hw : OwE B v L w) (hg : w.grownBy w' v.ownBlock) : PB b vp L2 w' := by
  have key : ∀ (g : Nat) (c : Array Value) (t : TypeId), w.heap[g]? = some (.cells c t (0, 0)) → t ≠ 32 → w'.heap[g]? = w.heap[g]? := fun g c t h1 h2 => hg.block g (blk_lt h1) (fun e => by
    obtain ⟨-, c2, h3⟩ := hw.blk e.symm
    exact h2 (kinds h1 h3))
  refine ⟨(key _ _ _ h.hb (by decide)).trans h.hb, ⟨h.hr.1, ?_⟩⟩
  rcases h.hr.2 with h1 | ⟨g, cap, cur, h1, h2, h3, rest⟩
  · exact .inl h1
  · exact .inr ⟨g, cap, cur, h1, h2, (key _ _ _ h3 (by decide)).trans h3, rest⟩
theorem grown_wide {w w' : World} {r : Option Nat} (h : w.grownBy w' none) : w.grownBy w' r := ⟨h.os, h.tape, h.output, h.size, fun k hk _ => h.block k hk (by simp)⟩
/-- One entry more behind it. -/
theorem app_ow {ops : Array Oper} {rest : List Oper} {o : Oper} {a : Act} {Q : Exit → Act → World → Prop} (hgd : o.guard = none) (s x : Operand)
    (ho : o.op = .call { callee := .builtin .append, args := #[s, x], argTypes := #[27, 27] }) (B : Nat) (v : Value) (L : List Ent) (p1 p2 : Int) (wr : World) (hs : a.eval s = v) (h : OwE B v L wr)
    (hx : a.eval x = .slice (some ⟨wr.heap.size, 0, none⟩) 1 1) (hl : L.length ≤ 1000) (hB : B ≤ wr.heap.size)
    (hK : ∀ a' c' w', OwE B (.slice a' (L.length + 1) c') (L ++ [(p1, p2)]) w' → (wr.alloc (.cells #[.int .i64 p1, .int .i64 p2] 32)).grownBy w' v.ownBlock → wpList Try.prog ops Q rest (a.put o.dst (.slice a' (L.length + 1) c')) w') :
    wpList Try.prog ops Q (o :: rest) a (wr.alloc (.cells #[.int .i64 p1, .int .i64 p2] 32)) := by
  obtain ⟨i0, hi, hz0, hz1, hz2⟩ := info_parts Try.infoRe
  have hW := h.below ((Below.refl _ wr).alloc (Nat.le_refl _) (.cells #[.int .i64 p1, .int .i64 p2] 32))
  obtain ⟨a0, c, rfl, hcl, hcm, hA⟩ := hW
  have hnew : ∀ j u, [Value.int .i64 p1, Value.int .i64 p2][j]? = some u → (wr.alloc (.cells #[.int .i64 p1, .int .i64 p2] 32)).cell? ((⟨wr.heap.size, 0, none⟩ : Addr).add j) = some u := cells_new wr #[.int .i64 p1, .int .i64 p2] _
  have hone : ∀ u ∈ [Value.int .i64 p1, Value.int .i64 p2], u.oneCell' = true := by intro u hu; simp at hu; rcases hu with rfl | rfl <;> rfl
  have hen : enL (L ++ [(p1, p2)]) = enL L ++ [.int .i64 p1, .int .i64 p2] := enL_snoc L (p1, p2)
  have hll : (L ++ [(p1, p2)]).length = L.length + 1 := by simp
  have hmx : L.length + 1 ≤ maxLen := by unfold maxLen; omega
  by_cases hr : L.length + 1 ≤ c
  · obtain ⟨g, q, rfl⟩ := hA.some (by omega)
    rcases hA with ⟨h9, -⟩ | ⟨g', q', h9, hBg, cur, hg, hsz, hc⟩
    · cases h9
    cases h9
    have hs2 := hsz (by omega)
    refine wpList_append_arg _ hgd s x _ ho 32 i0 (.agg #[.int .i64 0, .int .i64 0]) 2 16 Try.underlying27 hi hz0 hz1 hz2 rfl (by decide) g q L.length c (enL L) hs (enL_len L)
      (fun j u hj => blk_cell hg (hc j u hj)) ⟨wr.heap.size, 0, none⟩ 1 1 [.int .i64 p1, .int .i64 p2] hx rfl hnew hone (fun _ j hj => ⟨?_, blk_free hg⟩) hmx (by omega) (fun _ => ?_) (fun hbad => by omega)
    · have hj2 : j < 2 := hj
      simp [World.cell?, hg]; omega
    · have e : (wr.alloc (.cells #[.int .i64 p1, .int .i64 p2] 32)).setCells g (q + L.length * 2) [.int .i64 p1, .int .i64 p2] = ((wr.alloc (.cells #[.int .i64 p1, .int .i64 p2] 32)).setCell ⟨g, q + L.length * 2, none⟩ (.int .i64 p1)).setCell ⟨g, q + L.length * 2 + 1, none⟩ (.int .i64 p2) := by
        first | rfl | simp [World.setCells]
      rw [e]
      refine hK (some ⟨g, q, none⟩) c _ ?_ ?_
      · refine ⟨_, c, by rw [hll], by omega, hcm, .inr ⟨g, q, rfl, hBg, _, blk_set (blk_set hg _) _, fun _ => by rw [Array.size_setIfInBounds, Array.size_setIfInBounds]; exact hs2, fun j u hj => ?_⟩⟩
        rw [hen] at hj
        have hel := enL_len L
        by_cases h1 : j < L.length * 2
        · rw [List.getElem?_append_left (by omega)] at hj
          rw [Array.getElem?_setIfInBounds_ne (by omega), Array.getElem?_setIfInBounds_ne (by omega)]
          exact hc j u hj
        · rw [List.getElem?_append_right (by omega), hel] at hj
          have h2 : j = L.length * 2 ∨ j = L.length * 2 + 1 := by
            have : j - L.length * 2 < 2 := by
              rcases Nat.lt_or_ge (j - L.length * 2) 2 with h | h
              · exact h
              · rw [List.getElem?_eq_none (by simpa using h)] at hj; cases hj
            omega
          rcases h2 with rfl | rfl
          · rw [Nat.sub_self] at hj
            cases hj
            rw [Array.getElem?_setIfInBounds_ne (by omega), Array.getElem?_setIfInBounds_self_of_lt (by omega)]
          · rw [Nat.add_sub_cancel_left] at hj
            cases hj
            rw [← Nat.add_assoc, Array.getElem?_setIfInBounds_self_of_lt (by rw [Array.size_setIfInBounds]; omega)]
      · exact grown_set _ (grown_set _ ⟨rfl, rfl, rfl, Nat.le_refl _, fun _ _ _ => rfl⟩)
  · refine wpList_append_grows _ hgd s x _ ho 32 i0 (.agg #[.int .i64 0, .int .i64 0]) 2 16 Try.underlying27 hi hz0 hz1 hz2 rfl (by decide) a0 L.length c (enL L) hs (fun e => ?_) (enL_len L)
      (fun ad e j u hj => ?_) ⟨wr.heap.size, 0, none⟩ 1 1 [.int .i64 p1, .int .i64 p2] hx rfl hnew hone (by omega) hmx (by omega) (fun v' w' h1 h2 => ?_)
    · rcases hA with ⟨-, h9⟩ | ⟨g, q, h9, -⟩
      · omega
      · rw [e] at h9; cases h9
    · subst e
      rcases hA with ⟨h9, -⟩ | ⟨g, q, h9, hBg, cur, hg, hsz, hc⟩
      · cases h9
      · cases h9
        rw [Addr.add_lit]
        exact blk_cell hg (hc j u hj)
    · rcases h1.2 with ⟨_, h0⟩ | ⟨g, cap, cur, rfl, r⟩
      · omega
      · refine hK _ cap w' ?_ (grown_wide h2)
        rw [← hen, ← hll] at h1
        have := OwE.low (OwE.of_own h1) (show B ≤ (wr.alloc (.cells #[.int .i64 p1, .int .i64 p2] 32)).heap.size by simp; omega)
        rwa [hll] at this
theorem tkN_lt (L : List Ent) (k : Int) : ∀ n i, tkN L k n = some i → i < n
  | 0, i, h => by cases h
  | m + 1, i, h => by
    unfold tkN at h
    split at h
    · cases h; omega
    · have := tkN_lt L k m i h; omega
theorem tkL_len (L : List Ent) (k : Int) : (tkL L k).length ≤ L.length := by
  unfold tkL
  split
  · exact Nat.le_refl _
  · rename_i i hi
    have := tkN_lt _ _ _ _ hi
    rw [List.length_append, List.length_take, List.length_drop]
    omega
theorem OwE.tail {B g q n c : Nat} {p : Ent} {L : List Ent} {w : World} (h : OwE B (.slice (some ⟨g, q, none⟩) n c) (p :: L) w) (hn : n = L.length + 1) :
    (c = 1 → OwE B (.slice (some ⟨g, q, none⟩) L.length 0) L w) ∧ (c ≠ 1 → OwE B (.slice (some ⟨g, q + 2, none⟩) L.length (c - 1)) L w) := by
  obtain ⟨a, c', e, h1, h2, h3⟩ := h
  cases e
  rcases h3 with ⟨h3, -⟩ | ⟨g', q', e, h4, cur, h5, h6, h7⟩
  · cases h3
  cases e
  constructor
  · rintro rfl
    have hl : L = [] := List.eq_nil_of_length_eq_zero (by omega)
    subst hl
    exact ⟨_, 0, rfl, Nat.le_refl _, by unfold maxLen; omega, .inr ⟨g, q, rfl, h4, cur, h5, fun h => by omega, fun j u hj => by simp [enL] at hj⟩⟩
  · intro hc
    refine ⟨_, c - 1, rfl, by omega, by omega, .inr ⟨g, q + 2, rfl, h4, cur, h5, fun h => ?_, fun j u hj => ?_⟩⟩
    · have := h6 (by omega); omega
    · have := h7 (2 + j) u (by
        rw [show enL (p :: L) = enC p ++ enL L from rfl, List.getElem?_append_right (by simp [enC])]
        rw [show 2 + j - (enC p).length = j by simp [enC]]
        exact hj)
      rw [← this]; congr 1; omega
abbrev PA := Int × Int × Int
def pactC (p : PA) : List Value := [.int .i64 p.1, .int .i64 p.2.1, .int .i64 p.2.2]
theorem pact_cells {w : World} {a : Option Addr} {c n : Nat} {l : List PA} (h : RdL pactC 3 w (.slice a n c) l) (h0 : 0 < l.length) : ∃ b o, a = some ⟨b, o, none⟩ ∧ b < w.heap.size ∧ ∀ (j : Nat) (h : j < l.length), w.cell? ⟨b, o + j * 3, none⟩ = some (.int .i64 l[j].1) ∧ w.cell? ⟨b, o + j * 3 + 1, none⟩ = some (.int .i64 l[j].2.1) ∧ w.cell? ⟨b, o + j * 3 + 2, none⟩ = some (.int .i64 l[j].2.2) := by
  obtain ⟨a', c', h1, h2, h3, h4⟩ := h
  cases h1
  obtain ⟨b, o, g1, g2, g3⟩ := h4 h0
  exact ⟨b, o, g1, g2, fun j hj => ⟨by have := g3 j hj 0 (by omega); simpa [pactC] using this, by have := g3 j hj 1 (by omega); simpa [pactC] using this, by have := g3 j hj 2 (by omega); simpa [pactC] using this⟩⟩
/-- What holds at each round's head. -/
structure PInv (b : Nat) (vp vw : Value) (L : List Ent) (k : Nat) (w wr : World) : Prop where
  pool : PB b vp L wr
  lst : OwE (b + 1) vw L wr
  bel : Below w.heap.size w wr
  len : L.length ≤ k
  hb : w.heap.size ≤ b
theorem PInv.below {b : Nat} {vp vw : Value} {L : List Ent} {k : Nat} {w wr w' : World} (h : PInv b vp vw L k w wr) (hb : Below wr.heap.size wr w') : PInv b vp vw L k w w' :=
  ⟨pb_below h.pool hb, h.lst.below hb, h.bel.trans (hb.mono h.bel.size), h.len, h.hb⟩
theorem PInv.bel_onl {b : Nat} {vp vw : Value} {L : List Ent} {k : Nat} {w wr w' : World} (h : PInv b vp vw L k w wr) (ho : Onl b vp.ownBlock wr w') : Below w.heap.size w w' :=
  h.bel.trans (ho.below h.hb h.bel.size fun g hg => by have := (pb_row h.pool hg).1; have := h.hb; omega)
set_option maxRecDepth 100000 in
set_option maxHeartbeats 8000000 in
theorem tpool_walk (v : Value) (ps : List PA) (w : World) (hv : RdL pactC 3 w v ps) :
    Calls Try.prog 3 #[v] w fun e w' => e = .returned (.bool true) ∧ Below w.heap.size w w' := by
  have HV := Kp.mk hv
  obtain ⟨a, cap, rfl, hc1, hc2, -⟩ := hv
  have hll : ps.length ≤ 9223372036854775807 := by unfold maxLen at hc2; omega
  clear hc2
  by_cases hn : 100 < ps.length
  · have q1 : (100 : Int) < (ps.length : Int) := by omega
    go_enter Try.func3, Try.ntmps3
    go_wp2_with fail
    refine (lives40_any _).mono ?_
    rintro e w2 ⟨rfl, hb2⟩
    go_wp2_with fail
    go_ret
    exact ⟨rfl, hb2⟩
  · have q1 : ¬ (100 : Int) < (ps.length : Int) := by omega
    go_enter Try.func3, Try.ntmps3
    go_wp2_with fail
    have e1 : (w.alloc (.cells #[.slice none 0 0] 26)).heap.size = w.heap.size + 1 := World.size_alloc _ _
    have HI := Kp.mk (show PInv w.heap.size (.slice none 0 0) (.slice (some ⟨w.heap.size + 1, 0, none⟩) 0 0) [] 0 w ((w.alloc (.cells #[.slice none 0 0] 26)).alloc (.cells #[] 32)) from
      ⟨⟨blk_alloc (heap_alloc_new w _), World.ownsRow_nil _ _ _ _⟩, by
        have := litT (w.alloc (.cells #[.slice none 0 0] 26)) (B := w.heap.size + 1) (by rw [e1]; exact Nat.le_refl _)
        rw [e1] at this
        exact OwE.of_own (L := []) this, ((Below.refl _ _).alloc (Nat.le_refl _) _).alloc (by rw [e1]; omega) _, Nat.le_refl _, Nat.le_refl _⟩)
    go_loopw [4, 22] (fun vw i wr => ∃ (k : Nat) (vp : Value) (L : List Ent), k ≤ ps.length ∧ i = .int .i64 k ∧ PInv w.heap.size vp vw L k w wr) (fun _ i _ => ps.length - (intOf i).toNat)
    case atStart => exact ⟨0, _, [], by omega, rfl, HI.out⟩
    case round =>
      obtain ⟨k, vp, L, hk, rfl, hI⟩ := hrel
      replace HI := Kp.mk hI
      have hLk := hI.len
      clear hI
      by_cases hlt : k < ps.length
      · obtain ⟨g, o, rfl, hgl, d0⟩ := pact_cells (HV.out.below HI.out.bel) (by omega)
        obtain ⟨c1, c2, c3⟩ := d0 k hlt
        have q2 : (k : Int) < (ps.length : Int) := by omega
        generalize ps[k] = p at *
        obtain ⟨d, at_, x⟩ := p
        dsimp only at c1 c2 c3
        have hbx := heap_alloc_new wr (.cells #[.int .i64 d, .int .i64 at_, .int .i64 x] 29)
        have HBX := Kp.mk hbx
        have b0 := blk_cell (i := 0) hbx rfl
        have b1 := blk_cell (i := 1) hbx rfl
        have b2 := blk_cell (i := 2) hbx rfl
        have HJ := Kp.mk (HI.out.below ((Below.refl _ _).alloc (Nat.le_refl _) (.cells #[.int .i64 d, .int .i64 at_, .int .i64 x] 29)))
        have hbw : w.heap.size < wr.heap.size := blk_lt HI.out.pool.hb
        have HNE := Kp.mk (show vp.ownBlock ≠ some wr.heap.size from fun e => by
          obtain ⟨-, cur, h9⟩ := pb_row HI.out.pool e
          have := blk_lt h9
          omega)
        clear hbx d0
        by_cases hd1 : d = 1
        · subst hd1
          --<pa
          go_wp2_with fail
          refine (pput_any w.heap.size vp L at_ x _ HJ.out.pool (by omega)).mono ?_
          rintro e w2 ⟨vp2, rfl, h1, h2, h3⟩
          have R1 := Kp.mk h1
          have HB2 := Kp.mk (HJ.out.bel_onl h2)
          have R3 := Kp.mk (HJ.out.lst.onl HJ.out.pool h2)
          have hbx2 := h2.heap HBX.out (by omega) HNE.out
          have b1 := blk_cell (i := 1) hbx2 rfl
          have b2 := blk_cell (i := 2) hbx2 rfl
          have hs2 : w.heap.size + 1 ≤ w2.heap.size := blk_lt h1.hb
          clear h1 h2 h3 hbx2
          obtain ⟨a5, c5, rfl⟩ := R3.out.form
          go_wp2_with (at_builtin; refine app_ow rfl _ _ rfl (w.heap.size + 1) (.slice a5 L.length c5) L at_ x w2 rfl R3.out rfl (by omega) hs2 ?_; intro a6 c6 w6 h6 h7; have G6 := Kp.mk h6; have G7 := Kp.mk h7; clear h6 h7)
          have GP := Kp.mk (pb_grown (pb_below R1.out ((Below.refl _ _).alloc (Nat.le_refl _) (.cells #[.int .i64 at_, .int .i64 x] 32))) (R3.out.below ((Below.refl _ _).alloc (Nat.le_refl _) (.cells #[.int .i64 at_, .int .i64 x] 32))) G7.out)
          have GB := Kp.mk ((HB2.out.alloc (by omega) (.cells #[.int .i64 at_, .int .i64 x] 32)).grown G7.out (by simp; omega) (fun k hk => by have := (R3.out.blk hk).1; omega))
          have GL := Kp.mk (show (L ++ [(at_, x)]).length = L.length + 1 by simp)
          go_wp2_with fail
          refine (plen_any _ _ _ _ GP.out).mono ?_
          rw [GL.out]
          rintro e w7 ⟨rfl, rfl⟩
          go_wp2_with fail
          go_roundw
          case rel => exact ⟨k + 1, vp2, L ++ [(at_, x)], by omega, by go_num, GP.out, G6.out, GB.out, by rw [GL.out]; omega, Nat.le_refl _⟩
          case measure => simp [intOf]; omega
          -->pa
        · have hd1b : (d == 1) = false := by rw [beq_eq_false_iff_ne]; exact hd1
          by_cases hd2 : d = 2
          · subst hd2
            --<pb
            have HTK := Kp.mk (tkL_len L at_)
            have HPT := Kp.mk (ptake_any w.heap.size vp L at_ _ HJ.out.pool (by omega))
            have HRT := Kp.mk (fun vw w2 h hB => rtake_any (w.heap.size + 1) vw L at_ w2 h (by omega) hB)
            unfold OutP at HPT
            unfold RTk at HRT
            generalize tkL L at_ = TL at *
            generalize tkX L at_ = TX at *
            generalize tkB L at_ = TB at *
            have hTL := HTK.out
            have hxx : (TX != TX) = false := by simp
            have hbb : (TB != TB) = false := by simp
            go_wp2_with fail
            refine HPT.out.mono ?_
            rintro e w2 ⟨vp2, rfl, h1, h2, h3⟩
            have R1 := Kp.mk h1
            have HB2 := Kp.mk (HJ.out.bel_onl h2)
            have R3 := Kp.mk (HJ.out.lst.onl HJ.out.pool h2)
            have hbx2 := h2.heap HBX.out (by omega) HNE.out
            have b1 := blk_cell (i := 1) hbx2 rfl
            have b2 := blk_cell (i := 2) hbx2 rfl
            have hs2 : w.heap.size + 1 ≤ w2.heap.size := blk_lt h1.hb
            clear h1 h2 h3 hbx2
            go_wp2_with fail
            refine (HRT.out _ _ R3.out hs2).mono ?_
            rintro e w3 ⟨v3, rfl, h1, h2⟩
            have S1 := Kp.mk h1
            have SP := Kp.mk (pb_below R1.out h2)
            have SB := Kp.mk (HB2.out.trans (h2.mono (by omega)))
            clear h1 h2
            obtain ⟨a7, c7, rfl⟩ := S1.out.form
            go_wp2_with fail
            refine (plen_any _ _ _ _ SP.out).mono ?_
            rintro e w7 ⟨rfl, rfl⟩
            go_wp2_with fail
            go_roundw
            case rel => exact ⟨k + 1, vp2, TL, by omega, by go_num, SP.out, S1.out, SB.out, by omega, Nat.le_refl _⟩
            case measure => simp [intOf]; omega
            -->pb
          · have hd2b : (d == 2) = false := by rw [beq_eq_false_iff_ne]; exact hd2
            have HPO := Kp.mk (pold_any w.heap.size vp L _ HJ.out.pool (by omega))
            unfold OutP at HPO
            rcases L with _ | ⟨⟨p1, p2⟩, L⟩
            · rw [show decide (0 < ([] : List Ent).length) = false from rfl, show (([] : List Ent).getD 0 (0, 0)).1 = 0 from rfl, show (([] : List Ent).getD 0 (0, 0)).2 = 0 from rfl, show ([] : List Ent).drop 1 = [] from rfl] at HPO
              obtain ⟨a5, c5, rfl, hcl5, hcm5, hA5⟩ := HI.out.lst
              have HA5 := Kp.mk hA5
              rw [show ([] : List Ent).length = 0 from rfl] at *
              clear hA5
              rcases HA5.out with ⟨rfl, rfl⟩ | ⟨g5, q5, rfl, h9⟩
              · skip
                --<pc
                go_wp2_with fail
                refine HPO.out.mono ?_
                rintro e w2 ⟨vp2, rfl, h1, h2, h3⟩
                have R1 := Kp.mk h1
                have HB2 := Kp.mk (HJ.out.bel_onl h2)
                have R3 := Kp.mk (HJ.out.lst.onl HJ.out.pool h2)
                have hbx2 := h2.heap HBX.out (by omega) HNE.out
                have b1 := blk_cell (i := 1) hbx2 rfl
                have b2 := blk_cell (i := 2) hbx2 rfl
                have hs2 : w.heap.size + 1 ≤ w2.heap.size := blk_lt h1.hb
                clear h1 h2 h3 hbx2
                go_wp2_with fail
                refine (plen_any _ _ _ _ R1.out).mono ?_
                rintro e w7 ⟨rfl, rfl⟩
                go_wp2_with fail
                go_roundw
                case rel => exact ⟨k + 1, vp2, [], by omega, by go_num, R1.out, R3.out, HB2.out, by simp, Nat.le_refl _⟩
                case measure => simp [intOf]; omega
                -->pc
              · clear h9
                --<pd
                rcases Nat.eq_zero_or_pos c5 with hc0 | hc0
                · subst hc0
                  go_wp2_with fail
                  refine HPO.out.mono ?_
                  rintro e w2 ⟨vp2, rfl, h1, h2, h3⟩
                  have R1 := Kp.mk h1
                  have HB2 := Kp.mk (HJ.out.bel_onl h2)
                  have R3 := Kp.mk (HJ.out.lst.onl HJ.out.pool h2)
                  have hbx2 := h2.heap HBX.out (by omega) HNE.out
                  have b1 := blk_cell (i := 1) hbx2 rfl
                  have b2 := blk_cell (i := 2) hbx2 rfl
                  have hs2 : w.heap.size + 1 ≤ w2.heap.size := blk_lt h1.hb
                  clear h1 h2 h3 hbx2
                  go_wp2_with fail
                  refine (plen_any _ _ _ _ R1.out).mono ?_
                  rintro e w7 ⟨rfl, rfl⟩
                  go_wp2_with fail
                  go_roundw
                  case rel => exact ⟨k + 1, vp2, [], by omega, by go_num, R1.out, R3.out, HB2.out, by simp, Nat.le_refl _⟩
                  case measure => simp [intOf]; omega
                · have hc1 : (c5 == 0) = false := by rw [beq_eq_false_iff_ne]; omega
                  have hc2 : ¬ (0 : Nat) = c5 := by omega
                  have hc4 : ¬ c5 = 0 := by omega
                  have hc3 : (0 : Int) ≤ (c5 : Int) := by omega
                  go_wp2_with fail
                  refine HPO.out.mono ?_
                  rintro e w2 ⟨vp2, rfl, h1, h2, h3⟩
                  have R1 := Kp.mk h1
                  have HB2 := Kp.mk (HJ.out.bel_onl h2)
                  have R3 := Kp.mk (HJ.out.lst.onl HJ.out.pool h2)
                  have hbx2 := h2.heap HBX.out (by omega) HNE.out
                  have b1 := blk_cell (i := 1) hbx2 rfl
                  have b2 := blk_cell (i := 2) hbx2 rfl
                  have hs2 : w.heap.size + 1 ≤ w2.heap.size := blk_lt h1.hb
                  clear h1 h2 h3 hbx2
                  go_wp2_with fail
                  refine (plen_any _ _ _ _ R1.out).mono ?_
                  rintro e w7 ⟨rfl, rfl⟩
                  go_wp2_with fail
                  go_roundw
                  case rel => exact ⟨k + 1, vp2, [], by omega, by go_num, R1.out, R3.out, HB2.out, by simp, Nat.le_refl _⟩
                  case measure => simp [intOf]; omega
                -->pd
            · obtain ⟨a5, c5, rfl, hcl5, hcm5, hA5⟩ := HI.out.lst
              obtain ⟨g5, q5, rfl⟩ := hA5.some (by simp only [List.length_cons] at hcl5; omega)
              rw [show decide (0 < ((p1, p2) :: L).length) = true from by simp, show (((p1, p2) :: L).getD 0 (0, 0)).1 = p1 from rfl, show (((p1, p2) :: L).getD 0 (0, 0)).2 = p2 from rfl, show ((p1, p2) :: L).drop 1 = L from rfl] at HPO
              clear hA5
              have hlen : ((p1, p2) :: L).length = L.length + 1 := rfl
              generalize ((p1, p2) :: L).length = n at *
              have hnm : n - 1 = L.length := by omega
              have hn0 : (0 : Int) < (n : Int) := by omega
              have hmin : min (1 : Int) (n : Int) = 1 := by omega
              have h1n : (1 : Int) ≤ (n : Int) := by omega
              have h1c : (1 : Int) ≤ (c5 : Int) := by omega
              have hpp : (p1 != p1) = false := by simp
              have hpp2 : (p2 != p2) = false := by simp
              have HLN := Kp.mk hlen
              clear hlen
              --<pe
              go_wp2_with fail
              refine HPO.out.mono ?_
              rintro e w2 ⟨vp2, rfl, h1, h2, h3⟩
              have R1 := Kp.mk h1
              have HB2 := Kp.mk (HJ.out.bel_onl h2)
              have R3 := Kp.mk (HJ.out.lst.onl HJ.out.pool h2)
              have hbx2 := h2.heap HBX.out (by omega) HNE.out
              have b1 := blk_cell (i := 1) hbx2 rfl
              have b2 := blk_cell (i := 2) hbx2 rfl
              have hs2 : w.heap.size + 1 ≤ w2.heap.size := blk_lt h1.hb
              clear h1 h2 h3 hbx2
              have HTL := Kp.mk (R3.out.tail HLN.out)
              obtain ⟨a9, c9, e9, -, -, hA9⟩ := R3.out
              cases e9
              have d0 := hA9.cells 0 (.int .i64 p1) rfl
              have d1 := hA9.cells 1 (.int .i64 p2) rfl
              rw [Nat.add_zero] at d0
              clear hA9
              by_cases hc1 : c5 = 1
              · subst hc1
                go_wp2_with fail
                refine (plen_any _ _ _ _ R1.out).mono ?_
                rintro e w7 ⟨rfl, rfl⟩
                go_wp2_with fail
                go_roundw
                case rel => exact ⟨k + 1, vp2, L, by omega, by go_num, R1.out, HTL.out.1 (by first | rfl | trivial), HB2.out, by omega, Nat.le_refl _⟩
                case measure => simp [intOf]; omega
              · have hc2 : (c5 == 1) = false := by rw [beq_eq_false_iff_ne]; exact hc1
                have hc3 : ¬ (1 : Nat) = c5 := by omega
                go_wp2_with fail
                refine (plen_any _ _ _ _ R1.out).mono ?_
                rintro e w7 ⟨rfl, rfl⟩
                go_wp2_with fail
                go_roundw
                case rel => exact ⟨k + 1, vp2, L, by omega, by go_num, R1.out, HTL.out.2 hc1, HB2.out, by omega, Nat.le_refl _⟩
                case measure => simp [intOf]; omega
              -->pe
      · obtain rfl : k = ps.length := by omega
        go_wp2_with fail
        refine (lives40_any _).mono ?_
        rintro e w2 ⟨rfl, hb2⟩
        go_wp2_with fail
        go_ret
        exact ⟨rfl, HI.out.bel.trans (hb2.mono HI.out.bel.size)⟩
theorem pact_of {P : Program} {w : World} {t ti : TypeId} {fs : Array Field} {E : List Value} (ht : P.underlying t = some (.struct fs)) (hi : P.underlying ti = some (.int .i64)) (hc : P.cellsOf t = 3) (hci : P.cellsOf ti = 1)
    (h0 : ∃ f, fs[0]? = some f ∧ f.type = ti ∧ f.offset = 0) (h1 : ∃ f, fs[1]? = some f ∧ f.type = ti ∧ f.offset = 1) (h2 : ∃ f, fs[2]? = some f ∧ f.type = ti ∧ f.offset = 2) (h : Rdb P w t E) :
    ∃ p : PA, E = pactC p ∧ ((Lit.int .i64 p.1).wf = true ∧ (Lit.int .i64 p.2.1).wf = true ∧ (Lit.int .i64 p.2.2).wf = true) := by
  obtain ⟨hl, hf⟩ := h.struct ht
  obtain ⟨f0, e0, t0, o0⟩ := h0
  obtain ⟨f1, e1, t1, o1⟩ := h1
  obtain ⟨f2, e2, t2, o2⟩ := h2
  have g0 := hf 0 f0 e0
  have g1 := hf 1 f1 e1
  have g2 := hf 2 f2 e2
  rw [t0, o0, hci] at g0
  rw [t1, o1, hci] at g1
  rw [t2, o2, hci] at g2
  obtain ⟨s0, k0, z0⟩ := g0.int hi
  obtain ⟨s1, k1, z1⟩ := g1.int hi
  obtain ⟨s2, k2, z2⟩ := g2.int hi
  rw [hc] at hl
  match E, hl with
  | [x, y, z], _ =>
    simp at k0 k1 k2
    exact ⟨(s0, s1, s2), by simp [pactC, k0, k1, k2], z0, z1, z2⟩
theorem Try.fcellsPAct : Try.prog.cellsOf 29 = 3 := by kernel_rfl
theorem Try.fcellsPI : Try.prog.cellsOf 3 = 1 := by kernel_rfl
theorem pacts_arg (v1 : Value) (w : World) (h1 : Arg Try.prog w 22 v1) : ∃ ps, RdL pactC 3 w v1 ps ∧ ∀ p ∈ ps, (Lit.int .i64 p.1).wf = true ∧ (Lit.int .i64 p.2.1).wf = true ∧ (Lit.int .i64 p.2.2).wf = true :=
  h1.list (f := pactC) (Q := fun p => (Lit.int .i64 p.1).wf = true ∧ (Lit.int .i64 p.2.1).wf = true ∧ (Lit.int .i64 p.2.2).wf = true) Try.underlying22 Try.fcellsPAct (by omega) fun E hE =>
    pact_of Try.underlying29 Try.underlying3 Try.fcellsPAct Try.fcellsPI ⟨_, rfl, rfl, rfl⟩ ⟨_, rfl, rfl, rfl⟩ ⟨_, rfl, rfl, rfl⟩ hE
theorem tpool_arg (v0 : Value) (w : World) (h0 : Arg Try.prog w 22 v0) :
    Calls Try.prog 3 #[v0] w fun e w' => e = .returned (.bool true) ∧ Below w.heap.size w w' := by
  obtain ⟨ps, hv, -⟩ := pacts_arg v0 w h0
  exact tpool_walk v0 ps w hv
end Go.Proofs.Ytgogoncpnfojkaa
