/- Who is due (layer 41): the document's rows: Within, Left, Without (bin/mkckd.py). -/
import Derived.Test.YtpgnekejemockaaCkb
import Derived.Test.YtpgnekejemockaaHdi
import Derived.Laws.MakeOwn
namespace Go.Proofs.Ytpgnekejemockaa
open Go.RowKit
set_option linter.unusedVariables false
set_option linter.unusedSimpArgs false

abbrev Rw := Int × Int
def rwC (p : Rw) : List Value := [.int .i64 p.1, .int .i64 p.2]
def rwL (L : List Rw) : List Value := L.flatMap rwC
abbrev RdR (w : World) (v : Value) (L : List Rw) : Prop := RdL rwC 2 w v L
theorem rwL_len : ∀ L : List Rw, (rwL L).length = L.length * 2
  | [] => rfl
  | p :: S => by
    have := rwL_len S
    unfold rwL at this ⊢
    rw [List.flatMap_cons, List.length_append, this, List.length_cons]
    simp [rwC]
    omega
theorem rdr_own {w : World} {B : Nat} {e : TypeId} {v : Value} {l : List Rw} (h : w.ownsRow B e 2 v l.length (rwL l)) : RdR w v l := RdL.of_own (f := rwC) (fun _ => rfl) h
theorem rdr_form {w : World} {v : Value} {l : List Rw} (h : RdR w v l) : ∃ a c, v = .slice a l.length c := by
  obtain ⟨a, c, h1, _⟩ := h
  exact ⟨a, c, h1⟩
theorem rdr_cells {w : World} {a : Option Addr} {c n : Nat} {l : List Rw} (h : RdR w (.slice a n c) l) (h0 : 0 < l.length) : ∃ b o, a = some ⟨b, o, none⟩ ∧ b < w.heap.size ∧ ∀ (j : Nat) (h : j < l.length), w.cell? ⟨b, o + j * 2, none⟩ = some (.int .i64 l[j].1) ∧ w.cell? ⟨b, o + j * 2 + 1, none⟩ = some (.int .i64 l[j].2) := by
  obtain ⟨a', c', h1, h2, h3, h4⟩ := h
  cases h1
  obtain ⟨b, o, g1, g2, g3⟩ := h4 h0
  exact ⟨b, o, g1, g2, fun j hj => ⟨by have := g3 j hj 0 (by omega); simpa [rwC] using this, by have := g3 j hj 1 (by omega); simpa [rwC] using this⟩⟩
theorem within41_any (n : Int) (w : World) : Calls Try.prog 11 #[.int .i64 n] w fun e w' => e = .returned (.int .i64 (tkI n)) ∧ w = w' := by
  have HT := Kp.mk (show tkI n = if n < 0 then 0 else if 1073741824 < n then 1073741824 else n from rfl)
  generalize tkI n = T at *
  by_cases h0 : n < 0
  · have hT := HT.out.trans (if_pos h0)
    subst hT
    go_enter Try.func11, Try.ntmps11
    go_wp2_with fail
    go_ret
    exact ⟨rfl, rfl⟩
  · by_cases h1 : 1073741824 < n
    · have hT := HT.out.trans ((if_neg h0).trans (if_pos h1))
      subst hT
      go_enter Try.func11, Try.ntmps11
      go_wp2_with fail
      go_ret
      exact ⟨rfl, rfl⟩
    · have hT := HT.out.trans ((if_neg h0).trans (if_neg h1))
      subst hT
      go_enter Try.func11, Try.ntmps11
      go_wp2_with fail
      go_ret
      exact ⟨rfl, rfl⟩
/-- When one is due, among rows. -/
def fnd : List Rw → Int → Option Int
  | [], _ => none
  | p :: L, id => if p.1 = id then some p.2 else fnd L id
theorem fnd_mem : ∀ {L : List Rw} {id v : Int}, fnd L id = some v → (id, v) ∈ L
  | [], _, _, h => by cases h
  | p :: L, id, v, h => by
    unfold fnd at h
    split at h
    · rename_i e
      cases h
      subst e
      exact List.mem_cons_self ..
    · exact List.mem_cons_of_mem _ (fnd_mem h)
set_option maxRecDepth 100000 in
set_option maxHeartbeats 1000000 in
theorem rleft41_any (v : Value) (L : List Rw) (id now : Int) (w : World) (hv : RdR w v L) (hl : L.length ≤ 1000) (hB : ∀ p ∈ L, -1000000000000000000 ≤ p.2 - now ∧ p.2 - now ≤ 1000000000000000000) :
    Calls Try.prog 14 #[v, .int .i64 id, .int .i64 now] w fun e w' => e = .returned (.tuple #[.int .i64 (lfV (fnd L) id now), .bool (fnd L id).isSome]) ∧ w = w' := by
  have HV := Kp.mk hv
  have HB := Kp.mk hB
  have HF := Kp.mk (show ∀ r, fnd L id = r → lfV (fnd L) id now = (match r with | none => 0 | some v => v - now) from fun r e => by unfold lfV; rw [e]; cases r <;> rfl)
  generalize lfV (fnd L) id now = Z at *
  generalize hR : fnd L id = R at *
  have HR := Kp.mk hR
  obtain ⟨a, c, rfl⟩ := rdr_form hv
  clear hv hB hR
  go_enter Try.func14, Try.ntmps14
  go_wp2_with fail
  go_loopw [8] (fun i wr => ∃ k : Nat, k ≤ L.length ∧ i = .int .i64 k ∧ fnd (L.drop k) id = R ∧ wr = w) (fun i _ => L.length - (intOf i).toNat)
  case atStart => exact ⟨0, by omega, rfl, HR.out, rfl⟩
  case round =>
    obtain ⟨k, hk, rfl, hf, rfl⟩ := hrel
    have HK := Kp.mk hf
    clear hf
    by_cases hlt : k < L.length
    · obtain ⟨g, o, rfl, hgl, d0⟩ := rdr_cells HV.out (by omega)
      obtain ⟨c1, c2⟩ := d0 k hlt
      have q0 : (0 : Int) ≤ (k : Int) := by omega
      have q1 : (k : Int) < (L.length : Int) := by omega
      have HD := Kp.mk (List.drop_eq_getElem_cons hlt)
      have hbd := HB.out _ (List.getElem_mem hlt)
      clear d0
      generalize L[k] = p at *
      obtain ⟨p1, p2⟩ := p
      dsimp only at c1 c2 hbd
      have HK2 := Kp.mk (show (if p1 = id then some p2 else fnd (L.drop (k + 1)) id) = R by have h9 := HK.out; rw [HD.out] at h9; exact h9)
      by_cases he : p1 = id
      · subst he
        have hR := HK2.out.symm.trans (if_pos rfl)
        subst hR
        have hZ : Z = p2 - now := HF.out _ rfl
        subst hZ
        have hwr : IntKind.i64.wrap (p2 - now) = p2 - now := by
          simp [IntKind.wrap, IntKind.signed, IntKind.bits, wrap64]; omega
        clear hbd
        go_wp2_with fail
        go_ret2
        exact ⟨rfl, rfl⟩
      · have HK3 := Kp.mk ((if_neg he).symm.trans HK2.out)
        have he2 : (p1 == id) = false := by rw [beq_eq_false_iff_ne]; exact he
        clear hbd
        go_wp2_with fail
        go_roundw
        case rel => exact ⟨k + 1, by omega, by go_num, HK3.out, by trivial⟩
        case measure => simp [intOf]; omega
    · have hR := (show fnd (L.drop k) id = none by rw [List.drop_eq_nil_of_le (by omega)]; rfl).symm.trans HK.out
      subst hR
      have hZ : Z = 0 := HF.out _ rfl
      subst hZ
      go_wp2_with fail
      go_ret2
      exact ⟨rfl, rfl⟩
theorem rwL_at : ∀ (l : List Rw) (j : Nat), (rwL l)[j]? = (l[j / 2]?).bind fun p => (rwC p)[j % 2]?
  | [], j => by simp [rwL]
  | p :: r, 0 => by simp [rwL, rwC]
  | p :: r, 1 => by simp [rwL, rwC]
  | p :: r, j + 2 => by
    have h1 : (j + 2) / 2 = j / 2 + 1 := by omega
    have h2 : (j + 2) % 2 = j % 2 := by omega
    rw [h1, h2, List.getElem?_cons_succ, ← rwL_at r j]
    simp [rwL, rwC]
theorem rwL_one : ∀ (l : List Rw), ∀ u ∈ rwL l, u.oneCell' = true := by
  intro l u hu
  obtain ⟨p, hp, hu⟩ := List.mem_flatMap.1 hu
  simp [rwC] at hu
  rcases hu with rfl | rfl <;> rfl
theorem app_rws {P : Program} {wr : World} {ops : Array Oper} {rest : List Oper} {o : Oper} {a : Act} {Q : Exit → Act → World → Prop} (hgd : o.guard = none) (s x : Operand) (t e : TypeId)
    (ho : o.op = .call { callee := .builtin .append, args := #[s, x], argTypes := #[t, t] }) (ht : P.underlying t = some (.slice e)) (z : Value)
    (hi : (P.info? e).map (fun i => (i.zero, i.size, i.bytes)) = some (some z, 2, 16)) (hz : z.cells.size = 2) (B : Nat) (v : Value) (n : Nat) (xs : List Value) (hs : a.eval s = v) (hown : wr.ownsRow B e 2 v n xs)
    (vx : Value) (hx : a.eval x = vx) (l : List Rw) (hv : RdR wr vx l) (hlen : (n + l.length) * 16 ≤ 140737488355328) (hm : n + l.length ≤ maxLen) (hB : B ≤ wr.heap.size)
    (h : ∀ v' w', w'.ownsRow B e 2 v' (n + l.length) (xs ++ rwL l) → wr.grownBy w' v.ownBlock → wpList P ops Q rest (a.put o.dst v') w') :
    wpList P ops Q (o :: rest) a wr := by
  obtain ⟨i0, hi, hz0, hz1, hz2⟩ := info_parts hi
  obtain ⟨ad, c, rfl, hc1, hc2, h4⟩ := hv
  cases ad with
  | none =>
    have hl : l = [] := by
      rcases Nat.eq_zero_or_pos l.length with h0 | h0
      · exact List.eq_nil_of_length_eq_zero h0
      · obtain ⟨b, off, hb, _⟩ := h4 h0
        cases hb
    subst hl
    refine wpList_plain hgd fun K hK => ?_
    have hrun := run_append_zero (P := P) (w := wr) B t o.type e i0 2 ht hi v n xs hown c
    have := h v wr (by simpa [rwL] using hown) ⟨rfl, rfl, rfl, Nat.le_refl _, fun _ _ _ => rfl⟩
    unfold Oper.wp
    simp only [List.length_nil] at hx
    simp [execOp, ho, resolve, invoke, builtin, hs, hx, hrun, Result.andThen]
    exact hK _ _ this
  | some ad =>
    refine wpList_append_own _ hgd s x t ho B e i0 z 2 16 ht hi hz0 hz1 hz2 hz (by omega) v n xs hs hown ad l.length c (rwL l) hx (rwL_len l) ?_ (rwL_one l) hm hlen hB fun v' w' g1 g2 _ => h v' w' g1 g2
    intro j u hj
    have h0 : 0 < l.length := by
      have := (List.getElem?_eq_some_iff.1 hj).1
      rw [rwL_len] at this
      omega
    obtain ⟨b, off, hb, hbl, hcell⟩ := h4 h0
    cases hb
    rw [rwL_at] at hj
    obtain ⟨p, hp, hq⟩ := Option.bind_eq_some_iff.1 hj
    obtain ⟨hlt, rfl⟩ := List.getElem?_eq_some_iff.1 hp
    have := hcell (j / 2) hlt (j % 2) (by omega)
    rw [hq] at this
    have e : off + j / 2 * 2 + j % 2 = off + j := by omega
    rw [e] at this
    have e2 : (⟨b, off, none⟩ : Addr).add j = ⟨b, off + j, none⟩ := by cases j <;> simp [Addr.add]
    rw [e2]
    exact this
theorem Try.infoRw : (Try.prog.info? 33).map (fun i => (i.zero, i.size, i.bytes)) = some (some (.agg #[.int .i64 0, .int .i64 0]), 2, 16) := by kernel_rfl
/-- The rows without one's. -/
def wth (L : List Rw) (id : Int) : List Rw := L.filter (fun p => p.1 != id)
theorem wth_take {L : List Rw} {k : Nat} (h : k < L.length) (id : Int) : wth (L.take (k + 1)) id = wth (L.take k) id ++ (if L[k].1 = id then [] else [L[k]]) := by
  unfold wth
  rw [List.take_succ_eq_append_getElem h, List.filter_append]
  congr 1
  by_cases e : L[k].1 = id <;> simp [e]
theorem wth_len (L : List Rw) (id : Int) : (wth L id).length ≤ L.length := List.length_filter_le _ _
theorem rdr_new (w : World) (p : Rw) : RdR (w.alloc (.cells #[.int .i64 p.1, .int .i64 p.2] 33)) (.slice (some ⟨w.heap.size, 0, none⟩) 1 1) [p] := by
  have hb := heap_alloc_new w (.cells #[.int .i64 p.1, .int .i64 p.2] 33)
  refine ⟨_, 1, rfl, Nat.le_refl _, by decide, fun _ => ⟨w.heap.size, 0, rfl, blk_lt hb, fun j hj i hi => ?_⟩⟩
  simp at hj
  subst hj
  rcases (by omega : i = 0 ∨ i = 1) with rfl | rfl
  · exact blk_cell (i := 0) hb rfl
  · exact blk_cell (i := 1) hb rfl
def RetR (L : List Rw) (w : World) (e : Ending) (w' : World) : Prop := ∃ v, e = .returned v ∧ w'.ownsRow w.heap.size 33 2 v L.length (rwL L) ∧ Below w.heap.size w w'
set_option maxRecDepth 100000 in
set_option maxHeartbeats 2000000 in
theorem rwth_any (v : Value) (L : List Rw) (id : Int) (w : World) (hv : RdR w v L) (hl : L.length ≤ 1000) :
    Calls Try.prog 10 #[v, .int .i64 id] w (RetR (wth L id) w) := by
  have hBA := (Below.refl w.heap.size w).alloc (Nat.le_refl _) (.cells #[] 33)
  have HV := Kp.mk hv
  have HO := Kp.mk (World.ownsRow_lit (base := w.heap.size) (e := 33) (size := 2) w #[] 0 (Nat.le_refl _) (by unfold maxLen; omega) rfl)
  have HBA := Kp.mk hBA
  obtain ⟨a, c, rfl⟩ := rdr_form hv
  unfold RetR
  clear hBA hv
  go_enter Try.func10, Try.ntmps10
  go_wp2_with fail
  go_loopw [5, 6] (fun ov i wr => ∃ k : Nat, k ≤ L.length ∧ i = .int .i64 k ∧ wr.ownsRow w.heap.size 33 2 ov (wth (L.take k) id).length (rwL (wth (L.take k) id)) ∧ Below w.heap.size w wr) (fun _ i _ => L.length - (intOf i).toNat)
  case atStart => exact ⟨0, by omega, rfl, HO.out, HBA.out⟩
  case round =>
    obtain ⟨k, hk, rfl, ho, hb⟩ := hrel
    have HO2 := Kp.mk ho
    have HB := Kp.mk hb
    have hle := wth_len (L.take k) id
    rw [List.length_take] at hle
    clear ho
    by_cases hlt : k < L.length
    · obtain ⟨g, o, rfl, hgl, d0⟩ := rdr_cells (HV.out.below hb) (by omega)
      obtain ⟨c1, c2⟩ := d0 k hlt
      have q0 : (0 : Int) ≤ (k : Int) := by omega
      have q1 : (k : Int) < (L.length : Int) := by omega
      have HW := Kp.mk (wth_take hlt id)
      clear d0 hb
      generalize L[k] = p at *
      obtain ⟨p1, p2⟩ := p
      dsimp only at c1 c2
      generalize hX : wth (L.take k) id = X at *
      by_cases he : p1 = id
      · subst he
        have HW2 := Kp.mk (show wth (L.take (k + 1)) p1 = X by rw [HW.out]; simp)
        have he2 : (p1 != p1) = false := by simp
        go_wp2_with fail
        go_roundw
        case rel => exact ⟨k + 1, by omega, by go_num, by rw [HW2.out]; exact HO2.out, HB.out⟩
        case measure => simp [intOf]; omega
      · have HW2 := Kp.mk (show wth (L.take (k + 1)) id = X ++ [(p1, p2)] by rw [HW.out, if_neg he])
        have he2 : (p1 != id) = true := by simp [he]
        have hBC := (Below.refl wr.heap.size wr).alloc (Nat.le_refl _) (.cells #[.int .i64 p1, .int .i64 p2] 33)
        have HO3 := Kp.mk (HO2.out.alloc (.cells #[.int .i64 p1, .int .i64 p2] 33))
        have HVN := Kp.mk (rdr_new wr (p1, p2))
        have HBC := Kp.mk (HB.out.alloc HB.out.size (.cells #[.int .i64 p1, .int .i64 p2] 33))
        have hszA : w.heap.size ≤ (wr.alloc (.cells #[.int .i64 p1, .int .i64 p2] 33)).heap.size := Nat.le_trans HB.out.size hBC.size
        have hlen0 : (X.length + [(p1, p2)].length) * 16 ≤ 140737488355328 := by simp; omega
        have hmx0 : X.length + [(p1, p2)].length ≤ maxLen := by unfold maxLen; simp; omega
        have HL := Kp.mk (show (X ++ [(p1, p2)]).length = X.length + 1 by simp)
        have HLL := Kp.mk (show rwL (X ++ [(p1, p2)]) = rwL X ++ rwL [(p1, p2)] by simp [rwL])
        clear hBC
        go_wp2_with (at_builtin; refine app_rws rfl _ _ _ _ rfl Try.underlying26 _ Try.infoRw rfl w.heap.size _ X.length _ rfl HO3.out _ rfl [(p1, p2)] HVN.out hlen0 hmx0 hszA ?_; intro v1 w1 h1 h2; have HB1 := Kp.mk (HBC.out.grown h2 hszA fun k hk => (HO3.out.lt k hk).1); have HO1 := Kp.mk h1; clear h1 h2)
        go_roundw
        case rel => exact ⟨k + 1, by omega, by go_num, by rw [HW2.out, HL.out, HLL.out]; exact HO1.out, HB1.out⟩
        case measure => simp [intOf]; omega
    · have HK := Kp.mk (show L.take k = L from List.take_of_length_le (by omega))
      rw [HK.out] at HO2
      clear hb
      go_wp2_with fail
      go_ret
      exact ⟨_, rfl, HO2.out, HB.out⟩
end Go.Proofs.Ytpgnekejemockaa
