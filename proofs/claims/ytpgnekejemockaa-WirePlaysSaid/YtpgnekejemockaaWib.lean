/- A peer in memory: what it sent (a builder at 0), how much was read, whether it ended, what it took (a builder at 4). Made by bin/mkwib.py. -/
import Derived.Test.YtpgnekejemockaaBdr
import Derived.Test.YtpgnekejemockaaRfl
import Derived.RegionTactic
import Derived.Deep.RegionWith
namespace Go.Proofs.Ytpgnekejemockaa
open Go.RowKit
set_option linter.unusedVariables false
set_option linter.unusedSimpArgs false

structure WrV (b : Nat) (p1 v1 : Value) (rd : Nat) (en : Bool) (p2 v2 : Value) (s1 s2 : ByteArray) (w : World) : Prop where
  blk : w.heap[b]? = some (.cells #[p1, v1, .int .i64 (rd : Int), .bool en, p2, v2] 107 (0, 0))
  q1 : p1 = .pointer none ∨ p1 = .pointer (some ⟨b, 0, none⟩)
  q2 : p2 = .pointer none ∨ p2 = .pointer (some ⟨b, 4, none⟩)
  o1 : w.ownsRowF 0 5 1 v1 (Lib.strCells s1).length (Lib.strCells s1)
  o2 : w.ownsRowF 0 5 1 v2 (Lib.strCells s2).length (Lib.strCells s2)
  n1 : v1.ownBlock ≠ some b
  n2 : v2.ownBlock ≠ some b
  n12 : ∀ k, v1.ownBlock = some k → v2.ownBlock ≠ some k
theorem WrV.kept {b : Nat} {p1 v1 : Value} {rd : Nat} {en : Bool} {p2 v2 : Value} {s1 s2 : ByteArray} {w w' : World} (h : WrV b p1 v1 rd en p2 v2 s1 s2 w)
    (hb : ∀ k, k < w.heap.size → (k = b ∨ v1.ownBlock = some k ∨ v2.ownBlock = some k) → w'.heap[k]? = w.heap[k]?) : WrV b p1 v1 rd en p2 v2 s1 s2 w' :=
  ⟨(hb b (blk_lt h.blk) (.inl rfl)).trans h.blk, h.q1, h.q2, ownF_keep h.o1 fun k _ hk hv => hb k hk (.inr (.inl hv)), ownF_keep h.o2 fun k _ hk hv => hb k hk (.inr (.inr hv)), h.n1, h.n2, h.n12⟩
theorem WrV.below {b : Nat} {p1 v1 : Value} {rd : Nat} {en : Bool} {p2 v2 : Value} {s1 s2 : ByteArray} {w w' : World} (h : WrV b p1 v1 rd en p2 v2 s1 s2 w) (hb : Below w.heap.size w w') : WrV b p1 v1 rd en p2 v2 s1 s2 w' := h.kept fun k hk _ => hb.block k hk
/-- .. its blocks lie in A. -/
structure WrA (A : Nat → Prop) (b : Nat) (v1 v2 : Value) : Prop where
  a0 : A b
  a1 : ∀ k, v1.ownBlock = some k → A k
  a2 : ∀ k, v2.ownBlock = some k → A k
def WR (A : Nat → Prop) (b rd : Nat) (en : Bool) (s1 s2 : ByteArray) (w : World) : Prop := ∃ p1 v1 p2 v2, WrV b p1 v1 rd en p2 v2 s1 s2 w ∧ WrA A b v1 v2
theorem WR.kept {A : Nat → Prop} {b rd : Nat} {en : Bool} {s1 s2 : ByteArray} {w w' : World} (h : WR A b rd en s1 s2 w) (hb : ∀ k, k < w.heap.size → A k → w'.heap[k]? = w.heap[k]?) : WR A b rd en s1 s2 w' := by
  obtain ⟨p1, v1, p2, v2, h, ha⟩ := h
  exact ⟨p1, v1, p2, v2, h.kept fun k hk hor => hb k hk (by rcases hor with rfl | hv | hv; exact ha.a0; exact ha.a1 k hv; exact ha.a2 k hv), ha⟩
theorem WR.below {A : Nat → Prop} {b rd : Nat} {en : Bool} {s1 s2 : ByteArray} {w w' : World} (h : WR A b rd en s1 s2 w) (hb : Below w.heap.size w w') : WR A b rd en s1 s2 w' := h.kept fun k hk _ => hb.block k hk
theorem WR.lt {A : Nat → Prop} {b rd : Nat} {en : Bool} {s1 s2 : ByteArray} {w : World} (h : WR A b rd en s1 s2 w) : b < w.heap.size := by
  obtain ⟨p1, v1, p2, v2, h, ha⟩ := h
  exact blk_lt h.blk
/-- What an act of the peer does. -/
def WTo (A : Nat → Prop) (b rd : Nat) (en : Bool) (s1 s2 : ByteArray) (w w' : World) : Prop := ∃ A' : Nat → Prop, WR A' b rd en s1 s2 w' ∧ (∀ k, A' k → A k ∨ w.heap.size ≤ k) ∧ Kpt (fun k => ¬ A k) w w'
theorem Try.lieW0 : liesAt Try.prog Try.prog.depth 107 (6 / Try.prog.cellsOf 107) 0 93 1 = true := by kernel_rfl
theorem Try.lieW4 : liesAt Try.prog Try.prog.depth 107 (6 / Try.prog.cellsOf 107) 4 93 1 = true := by kernel_rfl
theorem Try.neWu : 107 ≠ 5 := by decide
theorem Try.cellsU8W : Try.prog.cellsOf 5 = 1 := by kernel_rfl
/-- append of a text to a row whose head may be frozen: the row that comes out is the old one, or new. -/
theorem app_strF {P : Program} {w : World} {ops : Array Oper} {rest : List Oper} {o : Oper} {a : Act} {Q : Exit → Act → World → Prop} (hgd : o.guard = none) (sl x : Operand) (t u : TypeId)
    (ho : o.op = .call { callee := .builtin .append, args := #[sl, x], argTypes := #[t, u] })
    (e : TypeId) (i : TypeInfo) (ht : P.underlying t = some (.slice e)) (hu : P.underlying u = some .string) (hi : P.info? e = some i) (hz : i.zero = some (.int .u8 0)) (hsize : i.size = 1) (hby : i.bytes = 1)
    (v : Value) (n : Nat) (xs : List Value) (hs : a.eval sl = v) (hown : w.ownsRowF 0 e 1 v n xs) (s : ByteArray) (hx : a.eval x = .string s) (hbytes : n + s.size ≤ 140737488355328)
    (h : ∀ v' w', w'.ownsRowF 0 e 1 v' (n + s.size) (xs ++ Lib.strCells s) → w.grownBy w' v.ownBlock → (∀ k, v'.ownBlock = some k → v.ownBlock = some k ∨ w.heap.size ≤ k) → wpList P ops Q rest (a.put o.dst v') w') : wpList P ops Q (o :: rest) a w := by
  have h63 : n + s.size ≤ maxLen := by unfold maxLen; omega
  refine wpList_plain hgd fun K hK => ?_
  obtain ⟨v', w', hr, h2, h3, -⟩ := Lib.run_append_own_stringF (P := P) w 0 t u o.type e i ht hu hi hz hsize hby v n xs hown s h63 hbytes (Nat.zero_le _)
  have h4 : ∀ k, v'.ownBlock = some k → v.ownBlock = some k ∨ w.heap.size ≤ k := by
    rcases hown.2 with ⟨rfl, rfl⟩ | ⟨g, cap, cur, fz, rfl, -, hg, hfz, hnc, hcm, hcs, -⟩
    · obtain ⟨v2, w2, hr2, k2, -⟩ := Lib.run_append_own_stringF (P := P) w w.heap.size t u o.type e i ht hu hi hz hsize hby (.slice none 0 0) 0 xs ⟨hown.1, .inl ⟨rfl, rfl⟩⟩ s h63 hbytes (Nat.le_refl _)
      rw [hr] at hr2
      cases hr2
      exact fun k hk => .inr (k2.lt k hk).1
    · by_cases hroom : n + s.size ≤ cap
      · have hr2 := Lib.run_append_room_stringF (P := P) w t u o.type e i ht hu hi hsize g n cap cur fz hg (by simpa using hfz) s hroom (by omega)
        rw [hr] at hr2
        cases hr2
        exact fun k hk => .inl hk
      · have hr2 := Lib.run_append_grow_string (P := P) w t u o.type e i (.int .u8 0) ht hu hi hz ⟨g, 0, none⟩ n cap xs (by rw [hsize]; simpa using hown.1) (hown.cells (g := g) rfl) s (by omega) (by unfold maxLen at h63; omega) (by rw [hby]; exact growslice_fits (by omega) (by omega))
        rw [hr] at hr2
        cases hr2
        exact fun k hk => .inr (by cases hk; exact Nat.le_refl _)
  unfold Oper.wp execOp
  simp only [ho, resolve, invoke, builtin, Sem.run_bind, Sem.run_pure, Result.andThen_ok, List.map_toArray, List.map_cons, List.map_nil, hs, hx, hr]
  exact hK _ _ (h v' w' h2 h3 h4)

set_option maxHeartbeats 1000000 in
set_option maxRecDepth 100000 in
theorem wcheck0 (b : Nat) (p1 v1 : Value) (rd : Nat) (en : Bool) (p2 v2 : Value) (s1 s2 : ByteArray) (w : World) (h : WrV b p1 v1 rd en p2 v2 s1 s2 w) :
    Calls Try.prog 79 #[.pointer (some ⟨b, 0, none⟩)] w fun e w' => e = .returned (.tuple #[]) ∧ WrV b (.pointer (some ⟨b, 0, none⟩)) v1 rd en p2 v2 s1 s2 w' ∧ Onl b none w w' ∧ w'.heap.size = w.heap.size := by
  obtain ⟨j, hj, hjs⟩ := Option.map_eq_some_iff.1 Try.szBd
  have H := Kp.mk h
  have h0 := blk_cell (i := 0) h.blk rfl
  have hfz := blk_free (i := 0) h.blk
  have hsh : w.shape? b = some (107, 6) := by simp [World.shape?, h.blk]
  rcases h.q1 with rfl | rfl
  · clear h
    go_enter Try.func79, Try.ntmps79
    go_wp2
    rw [Lib.run_to_unsafe w ⟨b, 0, none⟩ Try.underlying90 Try.underlying145 hj (by rw [hjs]; decide) hsh (show (0 : Nat) < 6 by decide)]
    simp only [Result.andThen]
    rw [Oper.upon_value]
    go_wp2
    rw [run_callFunc_extern Try.func111 (by kernel_rfl) (by kernel_rfl) (by kernel_rfl) (e := Extern.AbiNoEscape.same) (by kernel_rfl)]
    rw [Lib.run_noEscape]
    simp only [Result.andThen]
    rw [Oper.upon_value]
    go_wp2
    rw [Lib.run_from_unsafe w ⟨b, 0, none⟩ Try.underlying145 Try.underlying90 hj hsh Try.lieW0]
    simp only [Result.andThen]
    rw [Oper.upon_value]
    go_wp2
    go_end0
    refine ⟨rfl, ⟨(blk_set H.out.blk _).trans (by first | rfl | simp), .inr rfl, H.out.q2, ownF_keep H.out.o1 fun k _ hk hv => Below.heap_setCell _ _ _ _ (fun e => H.out.n1 (by rw [hv, e])), ownF_keep H.out.o2 fun k _ hk hv => Below.heap_setCell _ _ _ _ (fun e => H.out.n2 (by rw [hv, e])), H.out.n1, H.out.n2, H.out.n12⟩, (Onl.refl b none w).setCell _ _, by simp⟩
  · clear h
    go_enter Try.func79, Try.ntmps79
    go_wp2
    rw [Lib.run_neq_ptr_same w _ Try.underlying90 hj]
    go_wp2
    go_end0
    exact ⟨rfl, H.out, Onl.refl b none w, rfl⟩
set_option maxHeartbeats 2000000 in
set_option maxRecDepth 100000 in
theorem wwrite0 (A : Nat → Prop) (b rd : Nat) (en : Bool) (s1 s2 s : ByteArray) (w : World) (h : WR A b rd en s1 s2 w) (hlen : s1.size + s.size ≤ 140737488355328) :
    Calls Try.prog 47 #[.pointer (some ⟨b, 0, none⟩), .string s] w fun e w' => e = .returned (.tuple #[.int .i64 s.size, .nilIface]) ∧ WTo A b rd en (s1 ++ s) s2 w w' := by
  obtain ⟨i0, hi, hz0, hz1, hz2⟩ := info_parts Try.infoBy
  obtain ⟨p1, v1, p2, v2, h, ha⟩ := h
  have HA := Kp.mk ha
  have HCH := Kp.mk (wcheck0 b p1 v1 rd en p2 v2 s1 s2 w h)
  have HLT := Kp.mk (blk_lt h.blk)
  clear h ha
  go_enter Try.func47, Try.ntmps47
  go_wp2_with fail
  refine HCH.out.mono ?_
  rintro e w1 ⟨rfl, h1, hc, hsz⟩
  have H1 := Kp.mk h1
  have HC := Kp.mk hc
  have HSZ := Kp.mk hsz
  have c0 := blk_cell (i := 0) h1.blk rfl
  have c1 := blk_cell (i := 1) h1.blk rfl
  have hown := h1.o1
  have hlen2 : (Lib.strCells s1).length + s.size ≤ 140737488355328 := by rw [Lib.strCells_length]; exact hlen
  clear hc hsz HCH h1 hlen
  go_wp2_with (at_builtin; refine app_strF rfl _ _ 91 9 rfl 5 i0 Try.underlying91 Try.underlying9 hi hz0 hz1 hz2 _ _ _ rfl hown s rfl hlen2 ?_)
  intro v' w2 hown' hgrow hnew
  have hlt : b < w1.heap.size := blk_lt H1.out.blk
  have hb2 := (hgrow.block b hlt (fun e => H1.out.n1 e.symm)).trans H1.out.blk
  have d0 := blk_cell (i := 0) hb2 rfl
  have d1 := blk_cell (i := 1) hb2 rfl
  have f1 := blk_free (i := 1) hb2
  have hnb : v'.ownBlock ≠ some b := by
    intro e
    rcases hown'.2 with ⟨hv, _⟩ | ⟨g, cap, cur, fz, hv, _, hg, _⟩
    · rw [hv] at e; cases e
    · rw [hv] at e
      injection e with e
      subst e
      rw [hb2] at hg
      injection hg with hg
      injection hg with _ hg
      exact Try.neWu hg
  obtain ⟨ao, n', cap, rfl⟩ : ∃ ao n' cap, v' = .slice ao n' cap := by
    rcases hown'.2 with ⟨hv, _⟩ | ⟨g, cap, cur, fz, hv, _⟩
    · exact ⟨_, _, _, hv⟩
    · exact ⟨_, _, _, hv⟩
  have HO := Kp.mk hown'
  have HG := Kp.mk hgrow
  have HB2 := Kp.mk hb2
  have HNB := Kp.mk hnb
  have HNW := Kp.mk hnew
  clear hown' hgrow hb2 hown c0 c1 hnb hnew
  go_wp2
  go_ret2
  have hsz1 := HC.out.size
  have hne : ∀ k, k < w1.heap.size → v1.ownBlock ≠ some k → k ≠ b → (w2.setCell ⟨b, 1, none⟩ (.slice ao n' cap)).heap[k]? = w1.heap[k]? := fun k hk hv hb =>
    (Below.heap_setCell _ _ _ _ hb).trans (HG.out.block k hk (fun e => hv e.symm))
  refine ⟨rfl, fun k => k = b ∨ (Value.slice ao n' cap).ownBlock = some k ∨ v2.ownBlock = some k, ⟨_, _, _, _, ⟨(blk_set HB2.out _).trans (by first | rfl | simp), .inr rfl, H1.out.q2, ?_, ?_, HNB.out, H1.out.n2, ?_⟩, .inl rfl, fun k hk => .inr (.inl hk), fun k hk => .inr (.inr hk)⟩, ?_, ?_⟩
  skip
  · have := HO.out
    have e1 : Lib.strCells (s1 ++ s) = Lib.strCells s1 ++ Lib.strCells s := by rw [Lib.strCells_eq, Lib.strCells_eq, Lib.strCells_eq, ← Lib.byteCells_append, cat_app]
    rw [e1, List.length_append, Lib.strCells_length s]
    exact ownF_keep this fun k _ _ hv => Below.heap_setCell _ _ _ _ (fun e => HNB.out (by rw [hv, e]))
  skip
  · exact ownF_keep H1.out.o2 fun k _ hk hv => hne k hk (fun e => H1.out.n12 k e hv) (fun e => H1.out.n2 (by rw [hv, e]))
  skip
  · intro k hk hk2
    rcases HNW.out k hk with h | h
    · exact H1.out.n12 k h hk2
    · have := (H1.out.o2.lt k hk2).2; omega
  · intro k hk
    rcases hk with rfl | hk | hk
    · exact .inl HA.out.a0
    · rcases HNW.out k hk with h | h
      · exact .inl (HA.out.a1 k h)
      · exact .inr (by omega)
    · exact .inl (HA.out.a2 k hk)
  · refine ⟨HG.out.os.trans HC.out.os, HG.out.tape.trans HC.out.tape, HG.out.output.trans HC.out.output, ?_, fun k hk hF => ?_⟩
    · have := HG.out.size; simp; omega
    · have e1 : k ≠ b := fun e => hF (e ▸ HA.out.a0)
      exact (hne k (by omega) (fun e => hF (HA.out.a1 k e)) e1).trans (HC.out.block k hk e1 (fun e => by cases e))

set_option maxHeartbeats 1000000 in
set_option maxRecDepth 100000 in
theorem wcheck4 (b : Nat) (p1 v1 : Value) (rd : Nat) (en : Bool) (p2 v2 : Value) (s1 s2 : ByteArray) (w : World) (h : WrV b p1 v1 rd en p2 v2 s1 s2 w) :
    Calls Try.prog 79 #[.pointer (some ⟨b, 4, none⟩)] w fun e w' => e = .returned (.tuple #[]) ∧ WrV b p1 v1 rd en (.pointer (some ⟨b, 4, none⟩)) v2 s1 s2 w' ∧ Onl b none w w' ∧ w'.heap.size = w.heap.size := by
  obtain ⟨j, hj, hjs⟩ := Option.map_eq_some_iff.1 Try.szBd
  have H := Kp.mk h
  have h0 := blk_cell (i := 4) h.blk rfl
  have hfz := blk_free (i := 4) h.blk
  have hsh : w.shape? b = some (107, 6) := by simp [World.shape?, h.blk]
  rcases h.q2 with rfl | rfl
  · clear h
    go_enter Try.func79, Try.ntmps79
    go_wp2
    rw [Lib.run_to_unsafe w ⟨b, 4, none⟩ Try.underlying90 Try.underlying145 hj (by rw [hjs]; decide) hsh (show (4 : Nat) < 6 by decide)]
    simp only [Result.andThen]
    rw [Oper.upon_value]
    go_wp2
    rw [run_callFunc_extern Try.func111 (by kernel_rfl) (by kernel_rfl) (by kernel_rfl) (e := Extern.AbiNoEscape.same) (by kernel_rfl)]
    rw [Lib.run_noEscape]
    simp only [Result.andThen]
    rw [Oper.upon_value]
    go_wp2
    rw [Lib.run_from_unsafe w ⟨b, 4, none⟩ Try.underlying145 Try.underlying90 hj hsh Try.lieW4]
    simp only [Result.andThen]
    rw [Oper.upon_value]
    go_wp2
    go_end0
    refine ⟨rfl, ⟨(blk_set H.out.blk _).trans (by first | rfl | simp), H.out.q1, .inr rfl, ownF_keep H.out.o1 fun k _ hk hv => Below.heap_setCell _ _ _ _ (fun e => H.out.n1 (by rw [hv, e])), ownF_keep H.out.o2 fun k _ hk hv => Below.heap_setCell _ _ _ _ (fun e => H.out.n2 (by rw [hv, e])), H.out.n1, H.out.n2, H.out.n12⟩, (Onl.refl b none w).setCell _ _, by simp⟩
  · clear h
    go_enter Try.func79, Try.ntmps79
    go_wp2
    rw [Lib.run_neq_ptr_same w _ Try.underlying90 hj]
    go_wp2
    go_end0
    exact ⟨rfl, H.out, Onl.refl b none w, rfl⟩
set_option maxHeartbeats 2000000 in
set_option maxRecDepth 100000 in
theorem wwrite4 (A : Nat → Prop) (b rd : Nat) (en : Bool) (s1 s2 s : ByteArray) (w : World) (h : WR A b rd en s1 s2 w) (hlen : s2.size + s.size ≤ 140737488355328) :
    Calls Try.prog 47 #[.pointer (some ⟨b, 4, none⟩), .string s] w fun e w' => e = .returned (.tuple #[.int .i64 s.size, .nilIface]) ∧ WTo A b rd en s1 (s2 ++ s) w w' := by
  obtain ⟨i0, hi, hz0, hz1, hz2⟩ := info_parts Try.infoBy
  obtain ⟨p1, v1, p2, v2, h, ha⟩ := h
  have HA := Kp.mk ha
  have HCH := Kp.mk (wcheck4 b p1 v1 rd en p2 v2 s1 s2 w h)
  have HLT := Kp.mk (blk_lt h.blk)
  clear h ha
  go_enter Try.func47, Try.ntmps47
  go_wp2_with fail
  refine HCH.out.mono ?_
  rintro e w1 ⟨rfl, h1, hc, hsz⟩
  have H1 := Kp.mk h1
  have HC := Kp.mk hc
  have HSZ := Kp.mk hsz
  have c0 := blk_cell (i := 4) h1.blk rfl
  have c1 := blk_cell (i := 5) h1.blk rfl
  have hown := h1.o2
  have hlen2 : (Lib.strCells s2).length + s.size ≤ 140737488355328 := by rw [Lib.strCells_length]; exact hlen
  clear hc hsz HCH h1 hlen
  go_wp2_with (at_builtin; refine app_strF rfl _ _ 91 9 rfl 5 i0 Try.underlying91 Try.underlying9 hi hz0 hz1 hz2 _ _ _ rfl hown s rfl hlen2 ?_)
  intro v' w2 hown' hgrow hnew
  have hlt : b < w1.heap.size := blk_lt H1.out.blk
  have hb2 := (hgrow.block b hlt (fun e => H1.out.n2 e.symm)).trans H1.out.blk
  have d0 := blk_cell (i := 4) hb2 rfl
  have d1 := blk_cell (i := 5) hb2 rfl
  have f1 := blk_free (i := 5) hb2
  have hnb : v'.ownBlock ≠ some b := by
    intro e
    rcases hown'.2 with ⟨hv, _⟩ | ⟨g, cap, cur, fz, hv, _, hg, _⟩
    · rw [hv] at e; cases e
    · rw [hv] at e
      injection e with e
      subst e
      rw [hb2] at hg
      injection hg with hg
      injection hg with _ hg
      exact Try.neWu hg
  obtain ⟨ao, n', cap, rfl⟩ : ∃ ao n' cap, v' = .slice ao n' cap := by
    rcases hown'.2 with ⟨hv, _⟩ | ⟨g, cap, cur, fz, hv, _⟩
    · exact ⟨_, _, _, hv⟩
    · exact ⟨_, _, _, hv⟩
  have HO := Kp.mk hown'
  have HG := Kp.mk hgrow
  have HB2 := Kp.mk hb2
  have HNB := Kp.mk hnb
  have HNW := Kp.mk hnew
  clear hown' hgrow hb2 hown c0 c1 hnb hnew
  go_wp2
  go_ret2
  have hsz1 := HC.out.size
  have hne : ∀ k, k < w1.heap.size → v2.ownBlock ≠ some k → k ≠ b → (w2.setCell ⟨b, 5, none⟩ (.slice ao n' cap)).heap[k]? = w1.heap[k]? := fun k hk hv hb =>
    (Below.heap_setCell _ _ _ _ hb).trans (HG.out.block k hk (fun e => hv e.symm))
  refine ⟨rfl, fun k => k = b ∨ (Value.slice ao n' cap).ownBlock = some k ∨ v1.ownBlock = some k, ⟨_, _, _, _, ⟨(blk_set HB2.out _).trans (by first | rfl | simp), H1.out.q1, .inr rfl, ?_, ?_, H1.out.n1, HNB.out, ?_⟩, .inl rfl, fun k hk => .inr (.inr hk), fun k hk => .inr (.inl hk)⟩, ?_, ?_⟩
  rotate_left
  · have := HO.out
    have e1 : Lib.strCells (s2 ++ s) = Lib.strCells s2 ++ Lib.strCells s := by rw [Lib.strCells_eq, Lib.strCells_eq, Lib.strCells_eq, ← Lib.byteCells_append, cat_app]
    rw [e1, List.length_append, Lib.strCells_length s]
    exact ownF_keep this fun k _ _ hv => Below.heap_setCell _ _ _ _ (fun e => HNB.out (by rw [hv, e]))
  rotate_right
  · exact ownF_keep H1.out.o1 fun k _ hk hv => hne k hk (fun e => H1.out.n12 k hv e) (fun e => H1.out.n1 (by rw [hv, e]))
  skip
  · intro k hk hk2
    rcases HNW.out k hk2 with h | h
    · exact H1.out.n12 k hk h
    · have := (H1.out.o1.lt k hk).2; omega
  · intro k hk
    rcases hk with rfl | hk | hk
    · exact .inl HA.out.a0
    · rcases HNW.out k hk with h | h
      · exact .inl (HA.out.a2 k h)
      · exact .inr (by omega)
    · exact .inl (HA.out.a1 k hk)
  · refine ⟨HG.out.os.trans HC.out.os, HG.out.tape.trans HC.out.tape, HG.out.output.trans HC.out.output, ?_, fun k hk hF => ?_⟩
    · have := HG.out.size; simp; omega
    · have e1 : k ≠ b := fun e => hF (e ▸ HA.out.a0)
      exact (hne k (by omega) (fun e => hF (HA.out.a2 k e)) e1).trans (HC.out.block k hk e1 (fun e => by cases e))
end Go.Proofs.Ytpgnekejemockaa
