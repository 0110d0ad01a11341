/- Pools (layer 40): the document's Take; a list with an offset. -/
import Derived.Test.YtgogoncpnfojkaaTbf
import Derived.ArgAppend
namespace Go.Proofs.Ytgogoncpnfojkaa
open Go.RowKit
set_option linter.unusedVariables false
set_option linter.unusedSimpArgs false

theorem Try.infoRe : (Try.prog.info? 32).map (fun i => (i.zero, i.size, i.bytes)) = some (some (.agg #[.int .i64 0, .int .i64 0]), 2, 16) := by kernel_rfl
/-- A row of the call's own, from an offset on, or nothing. -/
def OwEA (B : Nat) (a : Option Addr) (c : Nat) (L : List Ent) (w : World) : Prop :=
  (a = none ∧ c = 0) ∨ ∃ g q, a = some ⟨g, q, none⟩ ∧ B ≤ g ∧ ∃ cur, w.heap[g]? = some (.cells cur 32 (0, 0)) ∧ (0 < c → q + c * 2 ≤ cur.size) ∧ ∀ j u, (enL L)[j]? = some u → cur[q + j]? = some u
def OwE (B : Nat) (v : Value) (L : List Ent) (w : World) : Prop := ∃ a c, v = .slice a L.length c ∧ L.length ≤ c ∧ c ≤ maxLen ∧ OwEA B a c L w
theorem OwE.kept {B : Nat} {v : Value} {L : List Ent} {w w' : World} (h : OwE B v L w) (hk : ∀ (g : Nat) (cur : Array Value), w.heap[g]? = some (Obj.cells cur 32 (0, 0)) → w'.heap[g]? = w.heap[g]?) : OwE B v L w' := by
  obtain ⟨a, c, h1, h2, h3, h4⟩ := h
  refine ⟨a, c, h1, h2, h3, ?_⟩
  rcases h4 with h4 | ⟨g, q, h5, h6, cur, h7, h8⟩
  · exact .inl h4
  · exact .inr ⟨g, q, h5, h6, cur, (hk g cur h7).trans h7, h8⟩
theorem OwE.below {B : Nat} {v : Value} {L : List Ent} {w w' : World} (h : OwE B v L w) (hb : Below w.heap.size w w') : OwE B v L w' := h.kept fun g cur hg => hb.block g (blk_lt hg)
theorem OwE.low {B B2 : Nat} {v : Value} {L : List Ent} {w : World} (h : OwE B v L w) (hb : B2 ≤ B) : OwE B2 v L w := by
  obtain ⟨a, c, h1, h2, h3, h4⟩ := h
  refine ⟨a, c, h1, h2, h3, ?_⟩
  rcases h4 with h4 | ⟨g, q, h5, h6, h7⟩
  · exact .inl h4
  · exact .inr ⟨g, q, h5, by omega, h7⟩
theorem OwE.of_own {B : Nat} {v : Value} {L : List Ent} {w : World} (h : w.ownsRow B 32 2 v L.length (enL L)) : OwE B v L w := by
  rcases h.2 with ⟨h1, h2⟩ | ⟨g, cap, cur, h1, h2, h3, h4, h5, h6, h7⟩
  · exact ⟨none, 0, by rw [h1, h2], by omega, by unfold maxLen; omega, .inl ⟨rfl, rfl⟩⟩
  · refine ⟨_, cap, h1, h4, h5, .inr ⟨g, 0, rfl, h2, cur, h3, fun _ => by omega, fun j u hj => ?_⟩⟩
    rw [← h7, List.getElem?_take] at hj
    split at hj
    · rw [Nat.zero_add]; rwa [Array.getElem?_toList] at hj
    · cases hj
theorem OwEA.cells {B g q c : Nat} {L : List Ent} {w : World} (h : OwEA B (some ⟨g, q, none⟩) c L w) : ∀ j u, (enL L)[j]? = some u → w.cell? ⟨g, q + j, none⟩ = some u := by
  rcases h with ⟨h, -⟩ | ⟨g', q', h, -, cur, h1, -, h2⟩
  · cases h
  · cases h
    exact fun j u hj => blk_cell h1 (h2 j u hj)
theorem OwEA.some {B c : Nat} {a : Option Addr} {L : List Ent} {w : World} (h : OwEA B a c L w) (hc : 0 < c) : ∃ g q, a = some ⟨g, q, none⟩ := by
  rcases h with ⟨-, h⟩ | ⟨g, q, h, -⟩
  · omega
  · exact ⟨g, q, h⟩
theorem op_app_ownT {P : Program} {ops : Array Oper} {o : Oper} {a : Act} {w : World} {K : Act → World → Prop} {Q : Exit → Act → World → Prop} (hgd : o.guard = none) (s x : Operand) (t : TypeId)
    (ho : o.op = .call { callee := .builtin .append, args := #[s, x], argTypes := #[t, t] })
    (base : Nat) (e : TypeId) (z : Value) (size bytes : Nat) (ht : P.underlying t = some (.slice e)) (hi : (P.info? e).map (fun i => (i.zero, i.size, i.bytes)) = some (some z, size, bytes)) (hzs : z.cells.size = size) (hsz : 0 < size)
    (v : Value) (n : Nat) (xs : List Value) (hs : a.eval s = v) (hown : w.ownsRow base e size v n xs)
    (ad : Addr) (m c : Nat) (news : List Value) (hx : a.eval x = .slice (some ad) m c) (hl : news.length = m * size) (hnews : ∀ j u, news[j]? = some u → w.cell? (ad.add j) = some u) (h1 : ∀ u ∈ news, u.oneCell' = true)
    (h63 : n + m ≤ maxLen) (hbytes : (n + m) * bytes ≤ 140737488355328) (hbase : base ≤ w.heap.size)
    (h : ∀ v' w', w'.ownsRow base e size v' (n + m) (xs ++ news) → w.grownBy w' v.ownBlock → (v'.ownBlock = v.ownBlock ∨ v'.ownBlock = some w.heap.size) → K (a.put o.dst v') w') :
    if Region.wanted o (yielded ops a.tmps) = true then Oper.wp P o a w K Q else K (a.put o.dst undef) w := by
  rw [if_pos (by simp only [Region.wanted, hgd])]
  obtain ⟨i0, hi, hz0, hz1, hz2⟩ := info_parts hi
  obtain ⟨v', w', hr, h2, h3, h4, h5⟩ := run_append_own_at (P := P) w base t o.type e i0 z size bytes ht hi hz0 hz1 hz2 hzs hsz v n xs hown ad m c news hl hnews h1 h63 hbytes hbase
  unfold Oper.wp execOp
  simp only [ho, resolve, invoke, builtin, Sem.run_bind, Sem.run_pure, Result.andThen_ok, List.map_toArray, List.map_cons, List.map_nil, hs, hx, hr]
  exact h v' w' h2 h3 h5
theorem litT (W : World) {B : Nat} (hB : B ≤ W.heap.size) : (W.alloc (.cells #[] 32)).ownsRow B 32 2 (.slice (some ⟨W.heap.size, 0, none⟩) 0 0) 0 [] := by
  have := World.ownsRow_lit (base := B) (e := 32) (size := 2) W #[] 0 hB (by unfold maxLen; omega) rfl
  exact this
/-- What Take comes to. -/
def RTk (B : Nat) (L : List Ent) (k : Int) (w : World) (e : Ending) (w' : World) : Prop :=
  ∃ v', e = .returned (.tuple #[v', .int .i64 (tkX L k), .bool (tkB L k)]) ∧ OwE B v' (tkL L k) w' ∧ Below w.heap.size w w'
set_option maxRecDepth 100000 in
set_option maxHeartbeats 4000000 in
theorem rtake_any (B : Nat) (v : Value) (L : List Ent) (k : Int) (w : World) (h : OwE B v L w) (hl : L.length ≤ 1000) (hB : B ≤ w.heap.size) :
    Calls Try.prog 18 #[v, .int .i64 k] w (RTk B L k w) := by
  have H := Kp.mk h
  have HBw := Kp.mk hB
  obtain ⟨a, c, rfl, hcl, hcm, hA⟩ := h
  have HA := Kp.mk hA
  unfold maxLen at hcm
  have HT0 := Kp.mk (tk_none (L := L) (k := k))
  have HT1 := Kp.mk (fun i => tk_hit (L := L) (k := k) (i := i))
  have hw0 : IntKind.i64.wrap ((L.length : Int) - 1) = (L.length : Int) - 1 := wrapT _ (by omega) (by omega)
  unfold RTk
  clear hA
  generalize tkL L k = TL at *
  generalize tkX L k = TX at *
  generalize tkB L k = TB at *
  go_enter Try.func18, Try.ntmps18
  go_wp2_with fail
  go_loopw [7] (fun i wr => ∃ m : Nat, m ≤ L.length ∧ i = .int .i64 ((m : Int) - 1) ∧ tkN L k L.length = tkN L k m ∧ wr = w) (fun i _ => (intOf i + 1).toNat)
  case atStart => exact ⟨L.length, Nat.le_refl _, rfl, rfl, rfl⟩
  case round =>
    obtain ⟨m, hm, rfl, hT, rfl⟩ := hrel
    have HT := Kp.mk hT
    clear hT
    rcases m with _ | i
    · go_wp2_with fail
      go_ret3
      obtain ⟨q1, q2, q3⟩ := HT0.out (HT.out.trans rfl)
      exact ⟨_, by rw [q2, q3]; rfl, by rw [q1]; exact H.out, Below.refl _ _⟩
    · rw [show (((i + 1 : Nat) : Int) - 1) = (i : Int) by omega]
      have hi : i < L.length := by omega
      have hat := enL_at hi
      obtain ⟨g, q, rfl⟩ := HA.out.some (by omega)
      have hc := HA.out.cells
      have hgl : g < wr.heap.size := by
        rcases HA.out with ⟨h9, -⟩ | ⟨g', q', h9, -, cur, h8, -⟩
        · cases h9
        · cases h9; exact blk_lt h8
      have HCE := Kp.mk hc
      have c1 := hc _ _ hat.1
      have c2 := hc _ _ hat.2
      have hwi : IntKind.i64.wrap ((i : Int) - 1) = (i : Int) - 1 := wrapT _ (by omega) (by omega)
      have hii : (i : Int) < (L.length : Int) := by omega
      have hi0 : (0 : Int) ≤ (i : Int) := by omega
      have HS := Kp.mk (HT.out.trans (tkN_step (k := k) hi))
      have HH := Kp.mk (fun q => HT1.out i q hi)
      clear hat hc
      rw [← Nat.add_assoc] at c2
      have HX := Kp.mk (fun t => enL_drop_at (L := L) (k := i + 1) (by omega) t)
      have HY := Kp.mk (show enL (L.take i) = (enL L).take (i * 2) from enL_take (by omega))
      generalize L[i] = p at *
      obtain ⟨p1, p2⟩ := p
      dsimp only at c1 c2 HS HH
      by_cases hp : p1 = k
      · subst hp
        have HS2 := Kp.mk (HS.out.trans (if_pos rfl))
        have HKEEP := Kp.mk (fun {X : World} (hb : Below wr.heap.size wr X) => show X.cell? ⟨g, q + i * 2 + 1, none⟩ = some (.int .i64 p2) from (hb.cell (p := ⟨g, _, none⟩) hgl).trans c2)
        have HB0 := Kp.mk (show Below wr.heap.size wr (wr.drew.alloc (.cells #[] 32)) from (Below.refl _ _).drew.alloc (Nat.le_refl _) _)
        have HL0 := Kp.mk (litT wr.drew (B := wr.heap.size) (Nat.le_refl _))
        have hsz0 : wr.heap.size ≤ (wr.drew.alloc (.cells #[] 32)).heap.size := HB0.out.size
        have HC1 := Kp.mk (show ∀ j u, (enL (L.take i))[j]? = some u → (wr.drew.alloc (.cells #[] 32)).cell? ((⟨g, q, none⟩ : Addr).add j) = some u from fun j u hj => by
          rw [HY.out, List.getElem?_take] at hj
          split at hj
          · rw [Addr.add_lit]; exact (HB0.out.cell (p := ⟨g, _, none⟩) hgl).trans (HCE.out j u hj)
          · cases hj)
        have HN1 := Kp.mk (show (enL (L.take i)).length = i * 2 by rw [enL_len, List.length_take, Nat.min_eq_left (by omega)])
        have hm1 : 0 + i ≤ maxLen := by unfold maxLen; omega
        have hm2 : (0 + i) * 16 ≤ 140737488355328 := by omega
        have hic : (i : Int) ≤ (c : Int) := by omega
        have hjl : (i : Int) + 1 ≤ (L.length : Int) := by omega
        have hwj : IntKind.i64.wrap ((i : Int) + 1) = (i : Int) + 1 := wrapT _ (by omega) (by omega)
        have hic1 : (i : Int) ≤ (i : Int) + 1 := by omega
        have hic0 : (0 : Int) ≤ (i : Int) + 1 := by omega
        by_cases hcj : c = i + 1
        · skip
          subst hcj
          have HC2 := Kp.mk (show ∀ {X : World}, Below wr.heap.size wr X → ∀ j u, (enL (L.drop (i + 1)))[j]? = some u → X.cell? ((⟨g, q, none⟩ : Addr).add j) = some u from fun hb j u hj => by rw [List.drop_eq_nil_of_le (by omega)] at hj; simp [enL] at hj)
          have HN2 := Kp.mk (show (enL (L.drop (i + 1))).length = (0) * 2 by rw [enL_len, List.length_drop] <;> omega)
          have hm3 : i + (0) ≤ maxLen := by unfold maxLen; omega
          have hm4 : (i + (0)) * 16 ≤ 140737488355328 := by omega
          go_upto_region 5 with fail
          refine wp_region_held_drew (S := fun w' => w'.cell? ⟨g, q + i * 2 + 1, none⟩ = some (.int .i64 p2)) (by kernel_rfl) (HKEEP.out (Below.refl _ _).drew) (fun hHeld => ?_)
          refine wpAnyH_take (i := 1) (oi := ⟨some 23, .move (.tmp 0), _, _, _, none⟩) (v := ?_) rfl (by kernel_rfl) (by kernel_rfl) (by kernel_rfl) (fun _ _ _ h => h) (Or.inl ⟨by rfl, ?_⟩) (by assumption) ?_
          rotate_left
          · intro w hSw
            try dsimp only at hSw
            go_simp
            try with_reducible rfl
          try simp only [Act.put, List.setIfInBounds_toArray, List.set_cons_zero, List.set_cons_succ]
          refine wpAnyH_take (i := 2) (oi := ⟨some 24, .move (.tmp 7), _, _, _, none⟩) (v := ?_) rfl (by kernel_rfl) (by kernel_rfl) (by kernel_rfl) (fun _ _ _ h => h) (Or.inl ⟨by rfl, ?_⟩) (by assumption) ?_
          rotate_left
          · intro w hSw
            try dsimp only at hSw
            go_simp
            try with_reducible rfl
          try simp only [Act.put, List.setIfInBounds_toArray, List.set_cons_zero, List.set_cons_succ]
          refine wpAnyH_take (i := 3) (oi := ⟨some 25, .slice 27 (.tmp 23) none (some (.tmp 24)) none, _, _, _, none⟩) (v := ?_) rfl (by kernel_rfl) (by kernel_rfl) (by kernel_rfl) (fun _ _ _ h => h) (Or.inl ⟨by rfl, ?_⟩) (by assumption) ?_
          rotate_left
          · intro w hSw
            try dsimp only at hSw
            go_simp
            try with_reducible rfl
          try simp only [Act.put, List.setIfInBounds_toArray, List.set_cons_zero, List.set_cons_succ]
          refine wpAnyH_take (i := 5) (oi := ⟨some 27, .move (.tmp 0), _, _, _, none⟩) (v := ?_) rfl (by kernel_rfl) (by kernel_rfl) (by kernel_rfl) (fun _ _ _ h => h) (Or.inl ⟨by rfl, ?_⟩) (by assumption) ?_
          rotate_left
          · intro w hSw
            try dsimp only at hSw
            go_simp
            try with_reducible rfl
          try simp only [Act.put, List.setIfInBounds_toArray, List.set_cons_zero, List.set_cons_succ]
          refine wpAnyH_take (i := 6) (oi := ⟨some 28, .move (.tmp 7), _, _, _, none⟩) (v := ?_) rfl (by kernel_rfl) (by kernel_rfl) (by kernel_rfl) (fun _ _ _ h => h) (Or.inl ⟨by rfl, ?_⟩) (by assumption) ?_
          rotate_left
          · intro w hSw
            try dsimp only at hSw
            go_simp
            try with_reducible rfl
          try simp only [Act.put, List.setIfInBounds_toArray, List.set_cons_zero, List.set_cons_succ]
          refine wpAnyH_take (i := 7) (oi := ⟨some 29, .binOp .add 3 (.tmp 28) (.const (.int .i64 1)) 3, _, _, _, none⟩) (v := ?_) rfl (by kernel_rfl) (by kernel_rfl) (by kernel_rfl) (fun _ _ _ h => h) (Or.inl ⟨by rfl, ?_⟩) (by assumption) ?_
          rotate_left
          · intro w hSw
            try dsimp only at hSw
            go_simp
            try with_reducible rfl
          try simp only [Act.put, List.setIfInBounds_toArray, List.set_cons_zero, List.set_cons_succ]
          refine wpAnyH_take (i := 8) (oi := ⟨some 30, .slice 27 (.tmp 27) (some (.tmp 29)) none none, _, _, _, none⟩) (v := ?_) rfl (by kernel_rfl) (by kernel_rfl) (by kernel_rfl) (fun _ _ _ h => h) (Or.inl ⟨by rfl, ?_⟩) (by assumption) ?_
          rotate_left
          · intro w hSw
            try dsimp only at hSw
            go_simp
            try with_reducible rfl
          try simp only [Act.put, List.setIfInBounds_toArray, List.set_cons_zero, List.set_cons_succ]
          refine wpAnyH_take (i := 10) (oi := ⟨some 32, .move (.tmp 0), _, _, _, none⟩) (v := ?_) rfl (by kernel_rfl) (by kernel_rfl) (by kernel_rfl) (fun _ _ _ h => h) (Or.inl ⟨by rfl, ?_⟩) (by assumption) ?_
          rotate_left
          · intro w hSw
            try dsimp only at hSw
            go_simp
            try with_reducible rfl
          try simp only [Act.put, List.setIfInBounds_toArray, List.set_cons_zero, List.set_cons_succ]
          refine wpAnyH_take (i := 11) (oi := ⟨some 33, .move (.tmp 7), _, _, _, none⟩) (v := ?_) rfl (by kernel_rfl) (by kernel_rfl) (by kernel_rfl) (fun _ _ _ h => h) (Or.inl ⟨by rfl, ?_⟩) (by assumption) ?_
          rotate_left
          · intro w hSw
            try dsimp only at hSw
            go_simp
            try with_reducible rfl
          try simp only [Act.put, List.setIfInBounds_toArray, List.set_cons_zero, List.set_cons_succ]
          refine wpAnyH_take (i := 12) (oi := ⟨some 34, .indexAddr 27 (.tmp 32) (.tmp 33), _, _, _, none⟩) (v := ?_) rfl (by kernel_rfl) (by kernel_rfl) (by kernel_rfl) (fun _ _ _ h => h) (Or.inl ⟨by rfl, ?_⟩) (by assumption) ?_
          rotate_left
          · intro w hSw
            try dsimp only at hSw
            go_simp
            try with_reducible rfl
          try simp only [Act.put, List.setIfInBounds_toArray, List.set_cons_zero, List.set_cons_succ]
          refine wpAnyH_take (i := 13) (oi := ⟨some 35, .fieldAddr 32 (.tmp 34) 1, _, _, _, none⟩) (v := ?_) rfl (by kernel_rfl) (by kernel_rfl) (by kernel_rfl) (fun _ _ _ h => h) (Or.inl ⟨by rfl, ?_⟩) (by assumption) ?_
          rotate_left
          · intro w hSw
            try dsimp only at hSw
            go_simp
            try with_reducible rfl
          try simp only [Act.put, List.setIfInBounds_toArray, List.set_cons_zero, List.set_cons_succ]
          refine wpAnyH_take (i := 14) (oi := ⟨some 36, .load 3 (.tmp 35), _, _, _, none⟩) (v := ?_) rfl (by kernel_rfl) (by kernel_rfl) (by kernel_rfl) (fun _ _ _ h => h) (Or.inl ⟨by rfl, ?_⟩) (by assumption) ?_
          rotate_left
          · intro w hSw
            try dsimp only at hSw
            go_simp
            try with_reducible rfl
          try simp only [Act.put, List.setIfInBounds_toArray, List.set_cons_zero, List.set_cons_succ]
          refine wpAnyH_ready (rs := [0]) (by kernel_rfl) (by simp) ?_
          refine AllReadyH.cons (o := ⟨some 22, _, _, _, _, none⟩) rfl (fun K hK => ?_) AllReadyH.nil
          go_simp
          refine hK.out _ _ (HKEEP.out HB0.out) (fun hHeld2 => ?_)
          clear hK K
          try simp only [Act.put, List.setIfInBounds_toArray, List.set_cons_zero, List.set_cons_succ]
          refine wpAnyH_ready (rs := [4]) (by kernel_rfl) (by simp) ?_
          refine AllReadyH.cons (o := ⟨some 26, _, _, _, _, none⟩) rfl (fun K hK => ?_) AllReadyH.nil
          apply op_app_ownT (s := .tmp 22) (x := .tmp 25) (t := 27) (base := wr.heap.size) (e := 32) (size := 2) (v := .slice (some ⟨wr.heap.size, 0, none⟩) 0 0) (n := 0) (xs := []) (hown := HL0.out) (ad := ⟨g, q, none⟩) (m := i) (c := i + 1) (news := enL (L.take i)) (hi := Try.infoRe) (ht := Try.underlying27) (hnews := HC1.out) (h1 := enL_one _) (h63 := hm1) (hbytes := hm2) (hbase := hsz0)
          all_goals (try (first | rfl | decide | exact HN1.out))
          intro v1 w1 h1 h2 h3
          rw [Nat.zero_add, List.nil_append] at h1
          have HB1 := Kp.mk (HB0.out.grown h2 hsz0 (fun k hk => by simp [Value.ownBlock] at hk; omega))
          have HO1 := Kp.mk h1
          have hsz1 : wr.heap.size ≤ w1.heap.size := HB1.out.size
          have e1 := HKEEP.out HB1.out
          clear h1 h2 h3
          refine hK.out _ _ (e1) (fun hHeld2 => ?_)
          clear hK K
          try simp only [Act.put, List.setIfInBounds_toArray, List.set_cons_zero, List.set_cons_succ]
          refine wpAnyH_ready (rs := [9]) (by kernel_rfl) (by simp) ?_
          refine AllReadyH.cons (o := ⟨some 31, _, _, _, _, none⟩) rfl (fun K hK => ?_) AllReadyH.nil
          apply op_app_ownT (s := .tmp 26) (x := .tmp 30) (t := 27) (base := wr.heap.size) (e := 32) (size := 2) (v := v1) (n := i) (xs := enL (L.take i)) (hown := HO1.out) (ad := ⟨g, q, none⟩) (m := 0) (c := 0) (news := enL (L.drop (i + 1))) (hi := Try.infoRe) (ht := Try.underlying27) (hnews := HC2.out HB1.out) (h1 := enL_one _) (h63 := hm3) (hbytes := hm4) (hbase := hsz1)
          all_goals (try (first | rfl | decide | exact HN2.out))
          intro v2 w2 h1 h2 h3
          have HB2 := Kp.mk (HB1.out.grown h2 hsz1 (fun k hk => (HO1.out.lt k hk).1))
          have HO2 := Kp.mk h1
          have e2 := HKEEP.out HB2.out
          clear h1 h2 h3
          refine hK.out _ _ (e2) (fun hHeld2 => ?_)
          clear hK K
          try simp only [Act.put, List.setIfInBounds_toArray, List.set_cons_zero, List.set_cons_succ]
          refine wpAnyH_take (i := 15) (oi := ⟨some 4, .assign (.tmp 31), _, _, _, none⟩) (v := ?_) rfl (by kernel_rfl) (by kernel_rfl) (by kernel_rfl) (fun _ _ _ h => h) (Or.inl ⟨by rfl, ?_⟩) (by assumption) ?_
          rotate_left
          · intro w hSw
            try dsimp only at hSw
            go_simp
            try with_reducible rfl
          try simp only [Act.put, List.setIfInBounds_toArray, List.set_cons_zero, List.set_cons_succ]
          refine wpAnyH_take (i := 16) (oi := ⟨some 5, .assign (.tmp 36), _, _, _, none⟩) (v := ?_) rfl (by kernel_rfl) (by kernel_rfl) (by kernel_rfl) (fun _ _ _ h => h) (Or.inl ⟨by rfl, ?_⟩) (by assumption) ?_
          rotate_left
          · intro w hSw
            try dsimp only at hSw
            go_simp
            try with_reducible rfl
          try simp only [Act.put, List.setIfInBounds_toArray, List.set_cons_zero, List.set_cons_succ]
          refine wpAnyH_take (i := 17) (oi := ⟨some 6, .assign (.const (.bool true)), _, _, _, none⟩) (v := ?_) rfl (by kernel_rfl) (by kernel_rfl) (by kernel_rfl) (fun _ _ _ h => h) (Or.inl ⟨by rfl, ?_⟩) (by assumption) ?_
          rotate_left
          · intro w hSw
            try dsimp only at hSw
            go_simp
            try with_reducible rfl
          try simp only [Act.put, List.setIfInBounds_toArray, List.set_cons_zero, List.set_cons_succ]
          refine wpAnyH_done (by kernel_rfl) ?_ _
          go_wp2_with fail
          go_ret3
          obtain ⟨q1, q2, q3⟩ := HH.out HS2.out
          refine ⟨v2, by rw [q2, q3]; rfl, ?_, HB2.out⟩
          rw [q1]
          refine (OwE.of_own ?_).low HBw.out
          have hx : (L.take i ++ L.drop (i + 1)).length = i + (0) := by rw [List.length_append, List.length_take, List.length_drop]; omega
          rw [hx, enL_app]
          exact HO2.out
        · skip
          skip
          have HC2 := Kp.mk (show ∀ {X : World}, Below wr.heap.size wr X → ∀ j u, (enL (L.drop (i + 1)))[j]? = some u → X.cell? ((⟨g, q + (i + 1) * 2, none⟩ : Addr).add j) = some u from fun hb j u hj => by rw [HX.out] at hj; rw [Addr.add_lit, Nat.add_assoc]; exact (hb.cell (p := ⟨g, _, none⟩) hgl).trans (HCE.out _ u hj))
          have HN2 := Kp.mk (show (enL (L.drop (i + 1))).length = (L.length - (i + 1)) * 2 by rw [enL_len, List.length_drop] <;> omega)
          have hm3 : i + (L.length - (i + 1)) ≤ maxLen := by unfold maxLen; omega
          have hm4 : (i + (L.length - (i + 1))) * 16 ≤ 140737488355328 := by omega
          go_upto_region 5 with fail
          refine wp_region_held_drew (S := fun w' => w'.cell? ⟨g, q + i * 2 + 1, none⟩ = some (.int .i64 p2)) (by kernel_rfl) (HKEEP.out (Below.refl _ _).drew) (fun hHeld => ?_)
          refine wpAnyH_take (i := 1) (oi := ⟨some 23, .move (.tmp 0), _, _, _, none⟩) (v := ?_) rfl (by kernel_rfl) (by kernel_rfl) (by kernel_rfl) (fun _ _ _ h => h) (Or.inl ⟨by rfl, ?_⟩) (by assumption) ?_
          rotate_left
          · intro w hSw
            try dsimp only at hSw
            go_simp
            try with_reducible rfl
          try simp only [Act.put, List.setIfInBounds_toArray, List.set_cons_zero, List.set_cons_succ]
          refine wpAnyH_take (i := 2) (oi := ⟨some 24, .move (.tmp 7), _, _, _, none⟩) (v := ?_) rfl (by kernel_rfl) (by kernel_rfl) (by kernel_rfl) (fun _ _ _ h => h) (Or.inl ⟨by rfl, ?_⟩) (by assumption) ?_
          rotate_left
          · intro w hSw
            try dsimp only at hSw
            go_simp
            try with_reducible rfl
          try simp only [Act.put, List.setIfInBounds_toArray, List.set_cons_zero, List.set_cons_succ]
          refine wpAnyH_take (i := 3) (oi := ⟨some 25, .slice 27 (.tmp 23) none (some (.tmp 24)) none, _, _, _, none⟩) (v := ?_) rfl (by kernel_rfl) (by kernel_rfl) (by kernel_rfl) (fun _ _ _ h => h) (Or.inl ⟨by rfl, ?_⟩) (by assumption) ?_
          rotate_left
          · intro w hSw
            try dsimp only at hSw
            go_simp
            try with_reducible rfl
          try simp only [Act.put, List.setIfInBounds_toArray, List.set_cons_zero, List.set_cons_succ]
          refine wpAnyH_take (i := 5) (oi := ⟨some 27, .move (.tmp 0), _, _, _, none⟩) (v := ?_) rfl (by kernel_rfl) (by kernel_rfl) (by kernel_rfl) (fun _ _ _ h => h) (Or.inl ⟨by rfl, ?_⟩) (by assumption) ?_
          rotate_left
          · intro w hSw
            try dsimp only at hSw
            go_simp
            try with_reducible rfl
          try simp only [Act.put, List.setIfInBounds_toArray, List.set_cons_zero, List.set_cons_succ]
          refine wpAnyH_take (i := 6) (oi := ⟨some 28, .move (.tmp 7), _, _, _, none⟩) (v := ?_) rfl (by kernel_rfl) (by kernel_rfl) (by kernel_rfl) (fun _ _ _ h => h) (Or.inl ⟨by rfl, ?_⟩) (by assumption) ?_
          rotate_left
          · intro w hSw
            try dsimp only at hSw
            go_simp
            try with_reducible rfl
          try simp only [Act.put, List.setIfInBounds_toArray, List.set_cons_zero, List.set_cons_succ]
          refine wpAnyH_take (i := 7) (oi := ⟨some 29, .binOp .add 3 (.tmp 28) (.const (.int .i64 1)) 3, _, _, _, none⟩) (v := ?_) rfl (by kernel_rfl) (by kernel_rfl) (by kernel_rfl) (fun _ _ _ h => h) (Or.inl ⟨by rfl, ?_⟩) (by assumption) ?_
          rotate_left
          · intro w hSw
            try dsimp only at hSw
            go_simp
            try with_reducible rfl
          try simp only [Act.put, List.setIfInBounds_toArray, List.set_cons_zero, List.set_cons_succ]
          refine wpAnyH_take (i := 8) (oi := ⟨some 30, .slice 27 (.tmp 27) (some (.tmp 29)) none none, _, _, _, none⟩) (v := ?_) rfl (by kernel_rfl) (by kernel_rfl) (by kernel_rfl) (fun _ _ _ h => h) (Or.inl ⟨by rfl, ?_⟩) (by assumption) ?_
          rotate_left
          · intro w hSw
            try dsimp only at hSw
            go_simp
            try with_reducible rfl
          try simp only [Act.put, List.setIfInBounds_toArray, List.set_cons_zero, List.set_cons_succ]
          refine wpAnyH_take (i := 10) (oi := ⟨some 32, .move (.tmp 0), _, _, _, none⟩) (v := ?_) rfl (by kernel_rfl) (by kernel_rfl) (by kernel_rfl) (fun _ _ _ h => h) (Or.inl ⟨by rfl, ?_⟩) (by assumption) ?_
          rotate_left
          · intro w hSw
            try dsimp only at hSw
            go_simp
            try with_reducible rfl
          try simp only [Act.put, List.setIfInBounds_toArray, List.set_cons_zero, List.set_cons_succ]
          refine wpAnyH_take (i := 11) (oi := ⟨some 33, .move (.tmp 7), _, _, _, none⟩) (v := ?_) rfl (by kernel_rfl) (by kernel_rfl) (by kernel_rfl) (fun _ _ _ h => h) (Or.inl ⟨by rfl, ?_⟩) (by assumption) ?_
          rotate_left
          · intro w hSw
            try dsimp only at hSw
            go_simp
            try with_reducible rfl
          try simp only [Act.put, List.setIfInBounds_toArray, List.set_cons_zero, List.set_cons_succ]
          refine wpAnyH_take (i := 12) (oi := ⟨some 34, .indexAddr 27 (.tmp 32) (.tmp 33), _, _, _, none⟩) (v := ?_) rfl (by kernel_rfl) (by kernel_rfl) (by kernel_rfl) (fun _ _ _ h => h) (Or.inl ⟨by rfl, ?_⟩) (by assumption) ?_
          rotate_left
          · intro w hSw
            try dsimp only at hSw
            go_simp
            try with_reducible rfl
          try simp only [Act.put, List.setIfInBounds_toArray, List.set_cons_zero, List.set_cons_succ]
          refine wpAnyH_take (i := 13) (oi := ⟨some 35, .fieldAddr 32 (.tmp 34) 1, _, _, _, none⟩) (v := ?_) rfl (by kernel_rfl) (by kernel_rfl) (by kernel_rfl) (fun _ _ _ h => h) (Or.inl ⟨by rfl, ?_⟩) (by assumption) ?_
          rotate_left
          · intro w hSw
            try dsimp only at hSw
            go_simp
            try with_reducible rfl
          try simp only [Act.put, List.setIfInBounds_toArray, List.set_cons_zero, List.set_cons_succ]
          refine wpAnyH_take (i := 14) (oi := ⟨some 36, .load 3 (.tmp 35), _, _, _, none⟩) (v := ?_) rfl (by kernel_rfl) (by kernel_rfl) (by kernel_rfl) (fun _ _ _ h => h) (Or.inl ⟨by rfl, ?_⟩) (by assumption) ?_
          rotate_left
          · intro w hSw
            try dsimp only at hSw
            go_simp
            try with_reducible rfl
          try simp only [Act.put, List.setIfInBounds_toArray, List.set_cons_zero, List.set_cons_succ]
          refine wpAnyH_ready (rs := [0]) (by kernel_rfl) (by simp) ?_
          refine AllReadyH.cons (o := ⟨some 22, _, _, _, _, none⟩) rfl (fun K hK => ?_) AllReadyH.nil
          go_simp
          refine hK.out _ _ (HKEEP.out HB0.out) (fun hHeld2 => ?_)
          clear hK K
          try simp only [Act.put, List.setIfInBounds_toArray, List.set_cons_zero, List.set_cons_succ]
          refine wpAnyH_ready (rs := [4]) (by kernel_rfl) (by simp) ?_
          refine AllReadyH.cons (o := ⟨some 26, _, _, _, _, none⟩) rfl (fun K hK => ?_) AllReadyH.nil
          apply op_app_ownT (s := .tmp 22) (x := .tmp 25) (t := 27) (base := wr.heap.size) (e := 32) (size := 2) (v := .slice (some ⟨wr.heap.size, 0, none⟩) 0 0) (n := 0) (xs := []) (hown := HL0.out) (ad := ⟨g, q, none⟩) (m := i) (c := c) (news := enL (L.take i)) (hi := Try.infoRe) (ht := Try.underlying27) (hnews := HC1.out) (h1 := enL_one _) (h63 := hm1) (hbytes := hm2) (hbase := hsz0)
          all_goals (try (first | rfl | decide | exact HN1.out))
          intro v1 w1 h1 h2 h3
          rw [Nat.zero_add, List.nil_append] at h1
          have HB1 := Kp.mk (HB0.out.grown h2 hsz0 (fun k hk => by simp [Value.ownBlock] at hk; omega))
          have HO1 := Kp.mk h1
          have hsz1 : wr.heap.size ≤ w1.heap.size := HB1.out.size
          have e1 := HKEEP.out HB1.out
          clear h1 h2 h3
          refine hK.out _ _ (e1) (fun hHeld2 => ?_)
          clear hK K
          try simp only [Act.put, List.setIfInBounds_toArray, List.set_cons_zero, List.set_cons_succ]
          refine wpAnyH_ready (rs := [9]) (by kernel_rfl) (by simp) ?_
          refine AllReadyH.cons (o := ⟨some 31, _, _, _, _, none⟩) rfl (fun K hK => ?_) AllReadyH.nil
          apply op_app_ownT (s := .tmp 26) (x := .tmp 30) (t := 27) (base := wr.heap.size) (e := 32) (size := 2) (v := v1) (n := i) (xs := enL (L.take i)) (hown := HO1.out) (ad := ⟨g, q + (i + 1) * 2, none⟩) (m := L.length - (i + 1)) (c := c - (i + 1)) (news := enL (L.drop (i + 1))) (hi := Try.infoRe) (ht := Try.underlying27) (hnews := HC2.out HB1.out) (h1 := enL_one _) (h63 := hm3) (hbytes := hm4) (hbase := hsz1)
          all_goals (try (first | rfl | decide | exact HN2.out))
          intro v2 w2 h1 h2 h3
          have HB2 := Kp.mk (HB1.out.grown h2 hsz1 (fun k hk => (HO1.out.lt k hk).1))
          have HO2 := Kp.mk h1
          have e2 := HKEEP.out HB2.out
          clear h1 h2 h3
          refine hK.out _ _ (e2) (fun hHeld2 => ?_)
          clear hK K
          try simp only [Act.put, List.setIfInBounds_toArray, List.set_cons_zero, List.set_cons_succ]
          refine wpAnyH_take (i := 15) (oi := ⟨some 4, .assign (.tmp 31), _, _, _, none⟩) (v := ?_) rfl (by kernel_rfl) (by kernel_rfl) (by kernel_rfl) (fun _ _ _ h => h) (Or.inl ⟨by rfl, ?_⟩) (by assumption) ?_
          rotate_left
          · intro w hSw
            try dsimp only at hSw
            go_simp
            try with_reducible rfl
          try simp only [Act.put, List.setIfInBounds_toArray, List.set_cons_zero, List.set_cons_succ]
          refine wpAnyH_take (i := 16) (oi := ⟨some 5, .assign (.tmp 36), _, _, _, none⟩) (v := ?_) rfl (by kernel_rfl) (by kernel_rfl) (by kernel_rfl) (fun _ _ _ h => h) (Or.inl ⟨by rfl, ?_⟩) (by assumption) ?_
          rotate_left
          · intro w hSw
            try dsimp only at hSw
            go_simp
            try with_reducible rfl
          try simp only [Act.put, List.setIfInBounds_toArray, List.set_cons_zero, List.set_cons_succ]
          refine wpAnyH_take (i := 17) (oi := ⟨some 6, .assign (.const (.bool true)), _, _, _, none⟩) (v := ?_) rfl (by kernel_rfl) (by kernel_rfl) (by kernel_rfl) (fun _ _ _ h => h) (Or.inl ⟨by rfl, ?_⟩) (by assumption) ?_
          rotate_left
          · intro w hSw
            try dsimp only at hSw
            go_simp
            try with_reducible rfl
          try simp only [Act.put, List.setIfInBounds_toArray, List.set_cons_zero, List.set_cons_succ]
          refine wpAnyH_done (by kernel_rfl) ?_ _
          go_wp2_with fail
          go_ret3
          obtain ⟨q1, q2, q3⟩ := HH.out HS2.out
          refine ⟨v2, by rw [q2, q3]; rfl, ?_, HB2.out⟩
          rw [q1]
          refine (OwE.of_own ?_).low HBw.out
          have hx : (L.take i ++ L.drop (i + 1)).length = i + (L.length - (i + 1)) := by rw [List.length_append, List.length_take, List.length_drop]; omega
          rw [hx, enL_app]
          exact HO2.out
      · have HS2 := Kp.mk (HS.out.trans (if_neg hp))
        have hp2 : (p1 == k) = false := by rw [beq_eq_false_iff_ne]; exact hp
        go_wp2_with fail
        go_roundw
        case rel => exact ⟨i, by omega, by first | rfl | rw [hwi], HS2.out, by first | rfl | trivial⟩
        case measure => (try rw [hwi]); simp [intOf] <;> omega
end Go.Proofs.Ytgogoncpnfojkaa
