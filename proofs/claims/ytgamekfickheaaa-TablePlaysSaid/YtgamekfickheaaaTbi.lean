/- Things in slots (layer 40): New of any size, Room, All; the document's slots (bin/mktbi.py). -/
import Derived.Test.YtgamekfickheaaaTbc
import Derived.Test.YtgamekfickheaaaHdi
import Derived.Laws.MakeOwn
namespace Go.Proofs.Ytgamekfickheaaa
open Go.RowKit
set_option linter.unusedVariables false
set_option linter.unusedSimpArgs false

abbrev RdW (w : World) (v : Value) (S : List Slt) : Prop := RdL slC 2 w v S
theorem slL_nth : ∀ (l : List Slt) (j : Nat), (slL l)[j]? = (l[j / 2]?).bind fun p => (slC p)[j % 2]?
  | [], j => by simp [slL]
  | p :: r, 0 => by simp [slL, slC]
  | p :: r, 1 => by simp [slL, slC]
  | p :: r, j + 2 => by
    have h1 : (j + 2) / 2 = j / 2 + 1 := by omega
    have h2 : (j + 2) % 2 = j % 2 := by omega
    rw [h1, h2, List.getElem?_cons_succ, ← slL_nth r j]
    simp [slL, slC]
theorem slL_one : ∀ (l : List Slt), ∀ u ∈ slL l, u.oneCell' = true := by
  intro l u hu
  obtain ⟨p, hp, hu⟩ := List.mem_flatMap.1 hu
  simp [slC] at hu
  rcases hu with rfl | rfl <;> rfl
theorem app_slts {P : Program} {wr : World} {ops : Array Oper} {rest : List Oper} {o : Oper} {a : Act} {Q : Exit → Act → World → Prop} (hgd : o.guard = none) (s x : Operand) (t e : TypeId)
    (ho : o.op = .call { callee := .builtin .append, args := #[s, x], argTypes := #[t, t] }) (ht : P.underlying t = some (.slice e)) (z : Value)
    (hi : (P.info? e).map (fun i => (i.zero, i.size, i.bytes)) = some (some z, 2, 16)) (hz : z.cells.size = 2) (B : Nat) (v : Value) (n : Nat) (xs : List Value) (hs : a.eval s = v) (hown : wr.ownsRow B e 2 v n xs)
    (vx : Value) (hx : a.eval x = vx) (l : List Slt) (hv : RdW wr vx l) (hlen : (n + l.length) * 16 ≤ 140737488355328) (hm : n + l.length ≤ maxLen) (hB : B ≤ wr.heap.size)
    (h : ∀ v' w', w'.ownsRow B e 2 v' (n + l.length) (xs ++ slL l) → wr.grownBy w' v.ownBlock → wpList P ops Q rest (a.put o.dst v') w') :
    wpList P ops Q (o :: rest) a wr := by
  obtain ⟨i0, hi, hz0, hz1, hz2⟩ := info_parts hi
  obtain ⟨ad, c, rfl, hc1, hc2, h4⟩ := hv
  cases ad with
  | none =>
    have hl : l = [] := by
      rcases Nat.eq_zero_or_pos l.length with h0 | h0
      · exact List.eq_nil_of_length_eq_zero h0
      · obtain ⟨b, off, hb, _⟩ := h4 h0
        cases hb
    subst hl
    refine wpList_plain hgd fun K hK => ?_
    have hrun := run_append_zero (P := P) (w := wr) B t o.type e i0 2 ht hi v n xs hown c
    have := h v wr (by simpa [slL] using hown) ⟨rfl, rfl, rfl, Nat.le_refl _, fun _ _ _ => rfl⟩
    unfold Oper.wp
    simp only [List.length_nil] at hx
    simp [execOp, ho, resolve, invoke, builtin, hs, hx, hrun, Result.andThen]
    exact hK _ _ this
  | some ad =>
    refine wpList_append_own _ hgd s x t ho B e i0 z 2 16 ht hi hz0 hz1 hz2 hz (by omega) v n xs hs hown ad l.length c (slL l) hx (slL_len l) ?_ (slL_one l) hm hlen hB fun v' w' g1 g2 _ => h v' w' g1 g2
    intro j u hj
    have h0 : 0 < l.length := by
      have := (List.getElem?_eq_some_iff.1 hj).1
      rw [slL_len] at this
      omega
    obtain ⟨b, off, hb, hbl, hcell⟩ := h4 h0
    cases hb
    rw [slL_nth] at hj
    obtain ⟨p, hp, hq⟩ := Option.bind_eq_some_iff.1 hj
    obtain ⟨hlt, rfl⟩ := List.getElem?_eq_some_iff.1 hp
    have := hcell (j / 2) hlt (j % 2) (by omega)
    rw [hq] at this
    have e : off + j / 2 * 2 + j % 2 = off + j := by omega
    rw [e] at this
    have e2 : (⟨b, off, none⟩ : Addr).add j = ⟨b, off + j, none⟩ := by cases j <;> simp [Addr.add]
    rw [e2]
    exact this
theorem rdw_own {w : World} {B : Nat} {e : TypeId} {v : Value} {l : List Slt} (h : w.ownsRow B e 2 v l.length (slL l)) : RdW w v l := RdL.of_own (f := slC) (fun _ => rfl) h
theorem rdw_form {w : World} {v : Value} {l : List Slt} (h : RdW w v l) : ∃ a c, v = .slice a l.length c := by
  obtain ⟨a, c, h1, _⟩ := h
  exact ⟨a, c, h1⟩
theorem rdw_cells {w : World} {a : Option Addr} {c n : Nat} {l : List Slt} (h : RdW w (.slice a n c) l) (h0 : 0 < l.length) : ∃ b o, a = some ⟨b, o, none⟩ ∧ b < w.heap.size ∧ ∀ (j : Nat) (h : j < l.length), w.cell? ⟨b, o + j * 2, none⟩ = some (.int .i64 l[j].1) ∧ w.cell? ⟨b, o + j * 2 + 1, none⟩ = some (.bool l[j].2) := by
  obtain ⟨a', c', h1, h2, h3, h4⟩ := h
  cases h1
  obtain ⟨b, o, g1, g2, g3⟩ := h4 h0
  exact ⟨b, o, g1, g2, fun j hj => ⟨by have := g3 j hj 0 (by omega); simpa [slC] using this, by have := g3 j hj 1 (by omega); simpa [slC] using this⟩⟩
theorem own_storeT {w : World} {B : Nat} {e : TypeId} {n g cap k : Nat} {xs : List Value} {u : Value} (h : w.ownsRow B e 2 (.slice (some ⟨g, 0, none⟩) n cap) n xs) :
    (w.setCell ⟨g, k, none⟩ u).ownsRow B e 2 (.slice (some ⟨g, 0, none⟩) n cap) n (xs.set k u) := by
  refine ⟨by rw [List.length_set]; exact h.1, ?_⟩
  rcases h.2 with ⟨h2, _⟩ | ⟨g', cap', cur, h2, h3, hg, h4, h5, h6, h7⟩
  · cases h2
  · cases h2
    refine .inr ⟨g, cap, cur.setIfInBounds k u, rfl, h3, blk_set hg _, h4, h5, by rw [Array.size_setIfInBounds]; exact h6, ?_⟩
    rw [Array.toList_setIfInBounds, List.take_set, h7]
theorem own_formT {w : World} {B : Nat} {e : TypeId} {sz n : Nat} {a : Option Addr} {c : Nat} {xs : List Value} (h : w.ownsRow B e sz (.slice a n c) n xs) : (a = none ∧ n = 0) ∨ ∃ g, a = some ⟨g, 0, none⟩ := by
  rcases h.2 with ⟨h, h0⟩ | ⟨g, cap, cur, h, _⟩
  · cases h
    exact .inl ⟨rfl, rfl⟩
  · cases h
    exact .inr ⟨g, rfl⟩
theorem own_freeT {w : World} {B : Nat} {e : TypeId} {n g cap : Nat} {xs : List Value} (h : w.ownsRow B e 2 (.slice (some ⟨g, 0, none⟩) n cap) n xs) (k : Nat) : w.frozen? ⟨g, k, none⟩ = false := by
  rcases h.2 with ⟨h0, _⟩ | ⟨_, _, _, h0, _, h1, _⟩
  · cases h0
  · cases h0
    exact blk_free h1
theorem TB.rd {b g : Nat} {S : List Slt} {w : World} (h : TB b g S w) (hl : S.length ≤ 1000) : RdW w (.slice (some ⟨g, 0, none⟩) S.length S.length) S := by
  refine ⟨some ⟨g, 0, none⟩, S.length, rfl, Nat.le_refl _, by unfold maxLen; omega, fun _ => ⟨g, 0, rfl, blk_lt h.hg, fun j hj i hi => ?_⟩⟩
  obtain ⟨c1, c2⟩ := h.cell hj
  rcases (by omega : i = 0 ∨ i = 1) with rfl | rfl
  · rw [Nat.zero_add, Nat.add_zero]; exact c1
  · rw [Nat.zero_add]; exact c2
def RetW (e0 : TypeId) (S : List Slt) (w : World) (e : Ending) (w' : World) : Prop := ∃ v, e = .returned v ∧ w'.ownsRow w.heap.size e0 2 v S.length (slL S) ∧ Below w.heap.size w w'
theorem Try.infoSl : (Try.prog.info? 132).map (fun i => (i.zero, i.size, i.bytes)) = some (some (.agg #[.int .i64 0, .bool false]), 2, 16) := by kernel_rfl
theorem Try.infoRs : (Try.prog.info? 129).map (fun i => (i.zero, i.size, i.bytes)) = some (some (.agg #[.int .i64 0, .bool false]), 2, 16) := by kernel_rfl
set_option maxRecDepth 100000 in
set_option maxHeartbeats 1000000 in
theorem tclone_any (g : Nat) (S : List Slt) (w : World) (hv : RdW w (.slice (some ⟨g, 0, none⟩) S.length S.length) S) (hl : S.length ≤ 1000) :
    Calls Try.prog 135 #[.slice (some ⟨g, 0, none⟩) S.length S.length] w (RetW 132 S w) := by
  have hBA := (Below.refl w.heap.size w).alloc (Nat.le_refl _) (.cells #[] 132)
  have HVA := Kp.mk (hv.below hBA)
  have HO := Kp.mk (World.ownsRow_lit (base := w.heap.size) (e := 132) (size := 2) w #[] 0 (Nat.le_refl _) (by unfold maxLen; omega) rfl)
  have HBA := Kp.mk hBA
  have hszA : w.heap.size ≤ (w.alloc (.cells #[] 132)).heap.size := hBA.size
  have hlen0 : (0 + S.length) * 16 ≤ 140737488355328 := by omega
  have hmx0 : 0 + S.length ≤ maxLen := by unfold maxLen; omega
  have hE : ∀ (n : Nat) (w : World), (binOp .eql 125 (.slice (some ⟨g, 0, none⟩) n n) (.slice none 0 0)).run Try.prog w = .ok (.bool false) w := fun n w => by kernel_rfl
  clear hBA hv
  go_enter Try.func135, Try.ntmps135
  go_wp2_with (at_builtin; refine app_slts rfl _ _ _ _ rfl Try.underlying125 _ Try.infoSl rfl w.heap.size _ 0 _ rfl HO.out _ rfl S HVA.out hlen0 hmx0 hszA ?_; intro v1 w1 h1 h2; rw [Nat.zero_add] at h1; have HB1 := Kp.mk (HBA.out.grown h2 hszA fun k hk => (HO.out.lt k hk).1); have HO1 := Kp.mk h1; clear h1 h2)
  go_ret
  exact ⟨_, rfl, HO1.out, HB1.out⟩
theorem sl_made (n : Nat) : madeCells (Value.agg #[.int .i64 0, .bool false]).cells (n * 2) = (slL (List.replicate n ((0 : Int), false))).toArray := by
  refine Array.ext_getElem? fun j => ?_
  have e : (slL (List.replicate n ((0 : Int), false))).toArray[j]? = (slL (List.replicate n ((0 : Int), false)))[j]? := by simp
  rw [e, slL_nth]
  by_cases hj : j < n * 2
  · have h2 : j / 2 < n := by omega
    rw [List.getElem?_replicate, if_pos h2, Array.getElem?_eq_getElem (by rw [size_madeCells]; exact hj)]
    simp only [madeCells, Array.getElem_map, Array.getElem_range]
    rcases (by omega : j % 2 = 0 ∨ j % 2 = 1) with h | h
    · simp [h, slC, Value.cells]
    · simp [h, slC, Value.cells]
  · have h2 : ¬ j / 2 < n := by omega
    rw [List.getElem?_replicate, if_neg h2, Array.getElem?_eq_none (by rw [size_madeCells]; omega)]
    rfl
theorem make_slts (t e : TypeId) (ht : Try.prog.underlying t = some (.slice e)) (hi : (Try.prog.info? e).map (fun i => (i.zero, i.size, i.bytes)) = some (some (.agg #[.int .i64 0, .bool false]), 2, 16)) (n : Nat) (hn : n ≤ 1000) (w : World) :
    (Instr.makeSlice t (.int .i64 n) (.int .i64 n)).run Try.prog w = .ok (.slice (some ⟨w.heap.size, 0, none⟩) n n) (w.alloc (.cells (slL (List.replicate n ((0 : Int), false))).toArray e)) := by
  obtain ⟨i0, hi, hz0, hz1, hz2⟩ := info_parts hi
  have h := run_make (P := Try.prog) w t e i0 (.agg #[.int .i64 0, .bool false]) ht hi hz0 .i64 .i64 n n (by omega) (by omega) (by rw [hz2]; omega) (by omega)
  rw [h, hz1, Int.toNat_natCast, sl_made]
set_option maxRecDepth 100000 in
set_option maxHeartbeats 1000000 in
theorem tnew_any (n : Nat) (w : World) (hn : n ≤ 1000) : Calls Try.prog 29 #[.int .i64 n] w (NewT (List.replicate n (0, false)) w) := by
  have hmk := fun w => make_slts 125 132 Try.underlying125 Try.infoSl n hn w
  have hS : (List.replicate n ((0 : Int), false)).length = n := List.length_replicate
  have HS := Kp.mk hS
  clear hS
  generalize List.replicate n ((0 : Int), false) = S at *
  have q0 : ¬ (n : Int) < 0 := by omega
  have q1 : ¬ (1000 : Int) < (n : Int) := by omega
  go_enter Try.func29, Try.ntmps29
  go_wp2_with fail
  go_ret
  have e1 : (w.alloc (.cells (slL S).toArray 132)).heap.size = w.heap.size + 1 := World.size_alloc _ _
  have k1 := heap_alloc_new (w.alloc (.cells (slL S).toArray 132)) (.cells #[.slice (some ⟨w.heap.size, 0, none⟩) n n] 127)
  rw [e1] at k1
  exact ⟨w.heap.size + 1, w.heap.size, rfl, ⟨by rw [HS.out]; exact k1, blk_alloc (heap_alloc_new w _), by omega⟩, ((Below.refl _ _).alloc (Nat.le_refl _) _).alloc (by rw [e1]; omega) _, Nat.le_refl _⟩
theorem tnew_far (n : Int) (w : World) (h : n < 0 ∨ 1000 < n) : Calls Try.prog 29 #[.int .i64 n] w fun e w' => e = .returned (.pointer none) ∧ w = w' := by
  rcases h with h | h
  · exact tnew_no n w h
  · have q0 : ¬ n < 0 := by omega
    go_enter Try.func29, Try.ntmps29
    go_wp2_with fail
    go_ret
    exact ⟨rfl, rfl⟩
theorem wrapT4 (n : Int) (h1 : -9223372036854775808 ≤ n) (h2 : n ≤ 9223372036854775807) : IntKind.i64.wrap n = n := by
  simp [IntKind.wrap, IntKind.signed, IntKind.bits, wrap64]; omega
theorem troom_any (b g : Nat) (S : List Slt) (w : World) (h : TB b g S w) (hl : S.length ≤ 1000) :
    Calls Try.prog 89 #[.pointer (some ⟨b, 0, none⟩)] w fun e w' => e = .returned (.int .i64 ((S.length : Int) - (lenN S : Int))) ∧ Below w.heap.size w w' := by
  have H := Kp.mk h
  have hle := lenN_le S
  have hw : IntKind.i64.wrap ((S.length : Int) - (lenN S : Int)) = (S.length : Int) - (lenN S : Int) := wrapT4 _ (by omega) (by omega)
  clear h
  go_enter Try.func89, Try.ntmps89
  go_wp2_with fail
  refine (tall_any b g S _ H.out).mono ?_
  rintro e w1 ⟨rfl, rfl⟩
  go_wp2_with fail
  refine (tlen_any b g S _ H.out hl).mono ?_
  rintro e w2 ⟨rfl, hb⟩
  have HB := Kp.mk hb
  clear hb
  go_wp2_with fail
  go_ret
  exact ⟨rfl, HB.out⟩
theorem tAll_any (b : Nat) (w : World) : Calls Try.prog 90 #[.pointer (some ⟨b, 0, none⟩)] w fun e w' => e = .returned (.func (.func 134) #[] #[.pointer (some ⟨w.heap.size, 0, none⟩)]) ∧ w' = w.alloc (.cells #[.pointer (some ⟨b, 0, none⟩)] 44) := by
  go_enter Try.func90, Try.ntmps90
  go_wp2_with fail
  go_ret
  exact ⟨rfl, rfl⟩
end Go.Proofs.Ytgamekfickheaaa
