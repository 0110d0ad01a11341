/- Lists (layer 7): Split, the program's. -/
import Derived.Test.YthlkflneldjnjaaLsd
import Derived.Test.YthlkflneldjnjaaHda
import Derived.Test.YthlkflneldjnjaaApn
namespace Go.Proofs.Ythlkflneldjnjaa
open Go.RowKit Go.Shelf
set_option linter.unusedVariables false
set_option linter.unusedSimpArgs false
attribute [local go_sem] Oper.semAt_some

theorem splB_all {s : ByteArray} {xs : List (ByteArray × Bool)} (hx : xs = partsL s) (h : ∀ x ∈ xs, x.2 = true) : splB s = true ∧ splL s = someL (xs.map (·.1)) := by
  subst hx
  have h1 : splB s = true := h (trimB (s.extract (psAt s s.size).fr s.size), splB s) (by unfold partsL; exact List.mem_append_right _ (List.mem_singleton.2 rfl))
  exact ⟨h1, by unfold splL; rw [if_pos h1, partsL_fst]⟩
theorem splB_not {s : ByteArray} {pre : List (ByteArray × Bool)} (hp : pre <+: partsL s) (h : ∃ x ∈ pre, x.2 = false) : splB s = false ∧ splL s = [] := by
  obtain ⟨x, hx, h2⟩ := h
  have hm := hp.subset hx
  unfold partsL at hm
  rw [List.mem_append] at hm
  have h1 : splB s = false := by
    rcases hm with hm | hm
    · rw [List.mem_map] at hm
      obtain ⟨r, _, rfl⟩ := hm
      cases h2
    · rw [List.mem_singleton] at hm
      subst hm
      exact h2
  exact ⟨h1, by unfold splL; rw [h1]; rfl⟩
def RetSp (s : ByteArray) (w : World) (e : Ending) (w' : World) : Prop := ∃ v, e = .returned (.tuple #[v, .bool (splB s)]) ∧ w'.ownsRow w.heap.size 9 1 v (splL s).length (svH (splL s)) ∧ Below w.heap.size w w'
set_option maxRecDepth 100000 in
set_option maxHeartbeats 1000000 in
theorem parts_any (s : ByteArray) (w : World) : Calls Try.prog 90 #[.string s] w fun e w' => e = .returned (.func (.func 120) #[] #[.pointer (some ⟨w.heap.size, 0, none⟩)]) ∧ w' = w.alloc (.cells #[.string s] 9) := by
  go_enter Try.func90, Try.ntmps90
  go_wp2_with fail
  go_ret
  exact ⟨rfl, rfl⟩
/-- What holds between two rounds: the blocks of the results, the elements so far. -/
structure SpI (h : Nat) (w : World) (pre : List (ByteArray × Bool)) (W : World) : Prop where
  r0 : W.heap[h]? = some (.cells #[.slice none 0 0] 25 (0, 0))
  r1 : W.heap[h + 1]? = some (.cells #[.bool false] 4 (0, 0))
  el : ∃ v, W.heap[h + 2]? = some (.cells #[v] 25 (0, 0)) ∧ W.ownsRow (h + 9) 9 1 v (someL (pre.map (·.1))).length (svH (someL (pre.map (·.1))))
  ok : ∀ x ∈ pre, x.2 = true
  bel : Below h w W
structure SpX (h : Nat) (w : World) (c : Code) (pre : List (ByteArray × Bool)) (W : World) : Prop where
  r0 : W.heap[h]? = some (.cells #[.slice none 0 0] 25 (0, 0))
  r1 : W.heap[h + 1]? = some (.cells #[.bool false] 4 (0, 0))
  ret : c = .ret
  no : ∃ x ∈ pre, x.2 = false
  bel : Below h w W
theorem own_kpt {A A' : World} {lo hi : Nat} {e : TypeId} {sz n : Nat} {v : Value} {xs : List Value} (h : A.ownsRow hi e sz v n xs) (hk : Kpt (fun k => k < lo ∨ hi ≤ k) A A') : A'.ownsRow hi e sz v n xs := by
  refine ⟨h.1, ?_⟩
  rcases h.2 with h2 | ⟨g, cap, cur, rfl, hb, hg, rest⟩
  · exact .inl h2
  · exact .inr ⟨g, cap, cur, rfl, hb, kpt_at hk hg (.inr hb), rest⟩
theorem SpI.abd (h : Nat) (w : World) (pre : List (ByteArray × Bool)) : Abd (h + 4) (h + 9) (SpI h w pre) := fun A A' hi hk => by
  obtain ⟨r0, r1, ⟨v, r2, r3⟩, ok, bel⟩ := hi
  exact ⟨kpt_at hk r0 (.inl (by omega)), kpt_at hk r1 (.inl (by omega)), ⟨v, kpt_at hk r2 (.inl (by omega)), own_kpt r3 hk⟩, ok, ⟨hk.os.trans bel.os, hk.tape.trans bel.tape, hk.output.trans bel.output, Nat.le_trans bel.size hk.size, fun k hlt => (hk.block k (by have := blk_lt r0; omega) (.inl (by omega))).trans (bel.block k hlt)⟩⟩
theorem SpX.abd (h : Nat) (w : World) (c : Code) (pre : List (ByteArray × Bool)) : Abd (h + 4) (h + 9) (SpX h w c pre) := fun A A' hi hk => by
  obtain ⟨r0, r1, rt, no, bel⟩ := hi
  exact ⟨kpt_at hk r0 (.inl (by omega)), kpt_at hk r1 (.inl (by omega)), rt, no, ⟨hk.os.trans bel.os, hk.tape.trans bel.tape, hk.output.trans bel.output, Nat.le_trans bel.size hk.size, fun k hlt => (hk.block k (by have := blk_lt r0; omega) (.inl (by omega))).trans (bel.block k hlt)⟩⟩
theorem grown_blk {wr w' : World} {o : Obj} {row : Option Nat} {k : Nat} {ob : Obj} (hg : (wr.alloc o).grownBy w' row) (hk : wr.heap[k]? = some ob) (h : row ≠ some k) : w'.heap[k]? = some ob :=
  (hg.block k (by have := blk_lt hk; simp; omega) (fun e => h e.symm)).trans (blk_alloc hk)
theorem own_set {w : World} {B : Nat} {e : TypeId} {sz n : Nat} {v : Value} {xs : List Value} {b o : Nat} {u : Value} (h : w.ownsRow B e sz v n xs) (hb : v.ownBlock ≠ some b) : (w.setCell ⟨b, o, none⟩ u).ownsRow B e sz v n xs := by
  refine ⟨h.1, ?_⟩
  rcases h.2 with h2 | ⟨g, cap, cur, rfl, h3, hg, rest⟩
  · exact .inl h2
  · exact .inr ⟨g, cap, cur, rfl, h3, blk_set_other hg (fun e => hb (by rw [← e]; rfl)) _, rest⟩
theorem below_put {B r : Nat} {w W : World} {o o' : Obj} (h : Below B w W) (hr : B ≤ r) (ho : W.heap[r]? = some o) : Below B w (W.putObj r o') :=
  ⟨h.os, h.tape, h.output, by simp; exact h.size, fun k hk => (World.putObj_heap_other (by omega)).trans (h.block k hk)⟩
theorem own_put {W : World} {B r : Nat} {e : TypeId} {sz n : Nat} {v : Value} {xs : List Value} {o : Obj} (h : W.ownsRow B e sz v n xs) (hr : r < B) : (W.putObj r o).ownsRow B e sz v n xs := by
  refine ⟨h.1, ?_⟩
  rcases h.2 with h2 | ⟨g, cap, cur, rfl, h3, hg, rest⟩
  · exact .inl h2
  · exact .inr ⟨g, cap, cur, rfl, h3, (World.putObj_heap_other (by omega)).trans hg, rest⟩
theorem own_low {W : World} {B B' : Nat} {e : TypeId} {sz n : Nat} {v : Value} {xs : List Value} (h : W.ownsRow B e sz v n xs) (hb : B' ≤ B) : W.ownsRow B' e sz v n xs := by
  refine ⟨h.1, ?_⟩
  rcases h.2 with h2 | ⟨g, cap, cur, rfl, h3, hg, rest⟩
  · exact .inl h2
  · exact .inr ⟨g, cap, cur, rfl, by omega, hg, rest⟩
set_option maxRecDepth 100000 in
set_option maxHeartbeats 2000000 in
theorem split_any (s : ByteArray) (w : World) (hs : s.size ≤ 200000000) : Calls Try.prog 53 #[.string s] w (RetSp s w) := by
  refine (callsIn_wide (n := 5)).1 ?_
  refine callsIn_of_wp_marks Try.func53 rfl trivial ?_ rfl
  simp only [Try.ntmps53, List.size_toArray, List.length_cons, List.length_nil, Nat.reduceAdd, Nat.reduceSub, Array.replicate_succ, Array.replicate_zero, List.push_toArray, List.append_toArray, List.nil_append, List.cons_append]
  gi_wp2_with fail
  refine ⟨trivial, (callsIn_wide.2 (parts_any s _)).mono ?_⟩
  rintro e w1 ⟨rfl, rfl⟩
  gi_wp2_with fail
  simp only [Nat.add_assoc, Nat.reduceAdd]
  obtain ⟨w0, hw0⟩ : ∃ w0, ((((w.alloc (.cells #[.slice none 0 0] 25)).alloc (.cells #[.bool false] 4)).alloc (.cells #[.slice none 0 0] 25)).alloc (.cells #[.string s] 9)) = w0 := ⟨_, rfl⟩
  have e1 : (w.alloc (.cells #[.slice none 0 0] 25)).heap.size = w.heap.size + 1 := World.size_alloc _ _
  have e2 : ((w.alloc (.cells #[.slice none 0 0] 25)).alloc (.cells #[.bool false] 4)).heap.size = w.heap.size + 2 := by rw [World.size_alloc, e1]
  have e3 : (((w.alloc (.cells #[.slice none 0 0] 25)).alloc (.cells #[.bool false] 4)).alloc (.cells #[.slice none 0 0] 25)).heap.size = w.heap.size + 3 := by rw [World.size_alloc, e2]
  have k1 := heap_alloc_new (w.alloc (.cells #[.slice none 0 0] 25)) (.cells #[.bool false] 4)
  have k2 := heap_alloc_new ((w.alloc (.cells #[.slice none 0 0] 25)).alloc (.cells #[.bool false] 4)) (.cells #[.slice none 0 0] 25)
  have k3 := heap_alloc_new (((w.alloc (.cells #[.slice none 0 0] 25)).alloc (.cells #[.bool false] 4)).alloc (.cells #[.slice none 0 0] 25)) (.cells #[.string s] 9)
  rw [e1] at k1
  rw [e2] at k2
  rw [e3, hw0] at k3
  have S0 : w0.heap.size = w.heap.size + 4 := by rw [← hw0, World.size_alloc, e3]
  have HI := Kp.mk (show SpI w.heap.size w [] w0 by
    rw [← hw0]
    exact ⟨blk_alloc (blk_alloc (blk_alloc (heap_alloc_new w _))), blk_alloc (blk_alloc k1), ⟨_, blk_alloc k2, World.ownsRow_nil _ _ _ _⟩, by simp,
      (((Below.refl _ _).alloc (Nat.le_refl _) _ |>.alloc (by rw [e1]; omega) _).alloc (by rw [e2]; omega) _).alloc (by rw [e3]; omega) _⟩)
  rw [hw0]
  have HS0 := Kp.mk S0
  have HB3 := Kp.mk k3
  clear e1 e2 e3 k1 k2 k3 hw0 S0
  generalize hh : w.heap.size = h at *
  refine rf_law (n := 5) rfl (by omega) (gf := 120) (lb := #[.pointer (some ⟨h + 3, 0, none⟩)]) rfl trivial (enters_of Try.func120 (by kernel_rfl) rfl)
    (fun k => h + 3 ≤ k ∧ k < h + 9) (h + 9) (by rw [HS0.out]; omega) (fun j a b => ⟨by have := HS0.out; omega, by omega⟩)
    (S := fun xs => xs = partsL s) (Sp := fun pre => pre <+: partsL s) (N := s.size + 1) (encs := pcs) ?seq (fun x => rfl) (SpI h w) (SpX h w)
    (fun pre => by rw [HS0.out]; exact SpI.abd _ _ _) (fun c pre => by rw [HS0.out]; exact SpX.abd _ _ _ _) HI.out
    (fun x => { tmps := #[.string s, undef, .pointer (some ⟨h, 0, none⟩), .pointer (some ⟨h + 1, 0, none⟩), .pointer (some ⟨h + 2, 0, none⟩), .string x.1, .bool x.2, .string s, .func (.func 120) #[] #[.pointer (some ⟨h + 3, 0, none⟩)], .string x.1, .bool x.2, undef, undef, undef, undef, undef, undef, undef, undef, undef], defers := [] }) ?assign ?body ?done ?stop
  case seq =>
    intro W hW hb
    have e := parts_seq 4 (w0.heap.size + 1) (h + 3) s hs (fun j => (h + 3 ≤ j ∧ j < h + 9) ∧ j ≠ w0.heap.size + 1) W (by have := HS0.out; omega) (fun k a b => by have := HS0.out; omega) ((hb.block _ (blk_lt HB3.out)).trans HB3.out) (by have := blk_lt HB3.out; omega)
    rw [show W.heap.size + 3 = h + 9 by have := HS0.out; omega] at e
    exact e
  case assign =>
    rintro l ⟨x1, x2⟩ W K hK
    simp only [pcs]
    gi_wp2
    exact hK
  case body =>
    rintro l pre x W hI hlen hz
    obtain ⟨r0, r1, ⟨v, r2, r3⟩, ok, bel⟩ := hI
    obtain ⟨x1, x2⟩ := x
    obtain ⟨av, cv, rfl⟩ := own_lenH r3
    have R0 := Kp.mk r0
    have R1 := Kp.mk r1
    have R2 := Kp.mk r2
    have R3 := Kp.mk r3
    have OK := Kp.mk ok
    have BEL := Kp.mk bel
    have c0 := blk_cell (i := 0) r0 rfl
    have c1 := blk_cell (i := 0) r1 rfl
    have c2 := blk_cell (i := 0) r2 rfl
    have f0 := blk_free (i := 0) r0
    have f1 := blk_free (i := 0) r1
    have f2 := blk_free (i := 0) r2
    have K0 := Kp.mk (Kpt.refl (fun k => h + 3 ≤ k ∧ k < h + 9) W)
    clear r0 r1 r2 r3 ok bel
    cases x2
    · gi_wp2_with fail
      exact ⟨(K0.out.setCell _ _ (by omega)).setCell _ _ (by omega), blk_set_other (blk_set R0.out _) (by omega) _, blk_set (blk_set_other R1.out (by omega) _) _, rfl, ⟨_, List.mem_append_right _ (List.mem_singleton.2 rfl), rfl⟩, (BEL.out.setCell (by simp) _).setCell (by simp) _⟩
    · have hok : ∀ x ∈ pre ++ [(x1, true)], x.2 = true := fun x hx => by
        rw [List.mem_append, List.mem_singleton] at hx
        rcases hx with hx | rfl
        · exact OK.out x hx
        · rfl
      have HSN := Kp.mk (show someL ((pre ++ [(x1, true)]).map (·.1)) = someL (pre.map (·.1)) ++ (if x1.size ≠ 0 then [x1] else []) by rw [List.map_append, ← someL_snoc]; rfl)
      have hln := someL_len (pre.map (·.1))
      rw [List.length_map] at hln
      have HOK := Kp.mk hok
      clear hok
      by_cases hx : x1.size = 0
      · have he : x1 = ⟨#[]⟩ := (ByteArray.size_eq_zero_iff.1 hx).trans rfl
        subst he
        have HS2 := Kp.mk (HSN.out.trans (List.append_nil _))
        clear hx
        gi_wp2_with fail
        exact ⟨K0.out, R0.out, R1.out, ⟨_, R2.out, by rw [HS2.out]; exact R3.out⟩, HOK.out, BEL.out⟩
      · have HS2 := Kp.mk (HSN.out.trans (by rw [if_pos hx]))
        have hx2 : ¬ x1.toList = [] := fun e => hx (by rw [ba_size', ← ByteArray.toList_eq, e]; rfl)
        have hx3 : x1.toList.isEmpty = false := by rw [List.isEmpty_eq_false_iff]; exact hx2
        have hlen : ((someL (pre.map (·.1))).length + 1) * 16 ≤ 140737488355328 := by omega
        have hmx : (someL (pre.map (·.1))).length + 1 ≤ maxLen := by unfold maxLen; omega
        clear hx
        generalize hLL : someL (pre.map (·.1)) = L at *
        have HR := Kp.mk (fun k (e : (Value.slice av L.length cv).ownBlock = some k) => (R3.out.lt k e).1)
        clear hln hLL
        gi_wp2_with (gi_at_builtin; refine app_anyIn rfl _ _ _ _ rfl Try.underlying25 _ _ _ Try.infoSH rfl (by omega) (h + 9) _ _ _ rfl R3.out #[.string x1] rfl (fun u hu => by simp at hu; subst hu; rfl) _ rfl rfl hlen hmx hz ?_; intro g' cap' w' h1 h2 h3; have G1 := Kp.mk h1; have G2 := Kp.mk h2; have Q0 := Kp.mk (grown_blk h2 R0.out (fun e => by have := HR.out _ e; omega)); have Q1 := Kp.mk (grown_blk h2 R1.out (fun e => by have := HR.out _ e; omega)); have Q2 := Kp.mk (grown_blk h2 R2.out (fun e => by have := HR.out _ e; omega)); have d2 := blk_cell (i := 0) Q2.out rfl; have e2 := blk_free (i := 0) Q2.out; clear h1 h2 h3)
        have hg9 : h + 9 ≤ g' := (G1.out.lt g' rfl).1
        refine ⟨((K0.out.alloc _).grown G2.out (fun k hk => by have := HR.out _ hk; omega)).setCell _ _ (by omega), blk_set_other Q0.out (by omega) _, blk_set_other Q1.out (by omega) _, ⟨_, blk_set Q2.out _, ?_⟩, HOK.out, ?_⟩
        · rw [HS2.out, List.length_append, svH_snoc]
          exact own_set G1.out (fun e => absurd (show g' = h + 2 by simpa [Value.ownBlock] using e) (by omega))
        · exact ((BEL.out.alloc (by omega) _).grown G2.out (by simp; omega) (fun k hk => by have := HR.out _ hk; omega)).setCell (by simp) _
  case done =>
    rintro xs W hxs hI hK
    obtain ⟨r0, r1, ⟨v, r2, r3⟩, ok, bel⟩ := hI
    obtain ⟨hb, hl⟩ := splB_all hxs ok
    obtain ⟨av, cv, rfl⟩ := own_lenH r3
    have R0 := Kp.mk r0
    have R1 := Kp.mk r1
    have R2 := Kp.mk r2
    rw [← hl] at r3 r2
    have R3 := Kp.mk r3
    have HL := Kp.mk hl
    have HB := Kp.mk hb
    have BEL := Kp.mk bel
    have HK := Kp.mk hK
    have c0 := blk_cell (i := 0) r0 rfl
    have c1 := blk_cell (i := 0) r1 rfl
    have c2 := blk_cell (i := 0) r2 rfl
    have f0 := blk_free (i := 0) r0
    have f1 := blk_free (i := 0) r1
    have f2 := blk_free (i := 0) r2
    clear r0 r1 r2 r3 ok bel hb hl hK
    gi_wp2_with fail
    have D0 : ((W.setCell ⟨h, 0, none⟩ (.slice av (splL s).length cv)).setCell ⟨h + 1, 0, none⟩ (.bool true)).heap[w0.heap.size]? = some (.deferred (some [])) := blk_set_other (blk_set_other HK.out (by have := HS0.out; omega) _) (by have := HS0.out; omega) _
    refine ⟨by simp, .inl ⟨_, _, rfl, run_takeDeferred D0, ?_⟩⟩
    have Z0 := blk_set_other (i := 0) (blk_set (i := 0) R0.out (.slice av (splL s).length cv)) (show h ≠ h + 1 by omega) (.bool true)
    have Z1 := blk_set (i := 0) (blk_set_other (i := 0) R1.out (show h + 1 ≠ h by omega) (.slice av (splL s).length cv)) (.bool true)
    have BL := (BEL.out.setCell (p := ⟨h, 0, none⟩) (by simp) (.slice av (splL s).length cv)).setCell (p := ⟨h + 1, 0, none⟩) (by simp) (.bool true)
    have RW := own_set (b := h + 1) (o := 0) (u := .bool true) (own_set (b := h) (o := 0) (u := .slice av (splL s).length cv) R3.out (fun e => by have := (R3.out.lt _ e).1; omega)) (fun e => by have := (R3.out.lt _ e).1; omega)
    generalize ((W.setCell ⟨h, 0, none⟩ (.slice av (splL s).length cv)).setCell ⟨h + 1, 0, none⟩ (.bool true)) = W2 at *
    have hs0 := HS0.out
    have z0 := blk_cell (i := 0) ((World.putObj_heap_other (w := W2) (r := w0.heap.size) (o := .deferred none) (k := h) (by omega)).trans Z0) rfl
    have z1 := blk_cell (i := 0) ((World.putObj_heap_other (w := W2) (r := w0.heap.size) (o := .deferred none) (k := h + 1) (by omega)).trans Z1) rfl
    refine ⟨.tuple #[.slice av (splL s).length cv, .bool true], ?_, ?_⟩
    · rw [hs0] at z0 z1 ⊢
      simp [results, Try.results53, go_sem, z0, z1, Result.andThen]
    · refine ⟨_, by rw [HB.out], own_low (own_put RW (by omega)) (by omega), ?_⟩
      rw [hh]
      exact below_put BL (by omega) D0
  case stop =>
    rintro c pre W hp hX hK
    obtain ⟨r0, r1, rfl, no, bel⟩ := hX
    obtain ⟨hb, hl⟩ := splB_not hp no
    have R0 := Kp.mk r0
    have R1 := Kp.mk r1
    have HL := Kp.mk hl
    have HB := Kp.mk hb
    have BEL := Kp.mk bel
    have HK := Kp.mk hK
    have c0 := blk_cell (i := 0) r0 rfl
    have c1 := blk_cell (i := 0) r1 rfl
    clear r0 r1 no bel hb hl hK
    gi_wp2_with fail
    refine ⟨by simp, .inl ⟨_, _, rfl, run_takeDeferred HK.out, ?_⟩⟩
    have hs0 := HS0.out
    have z0 := blk_cell (i := 0) ((World.putObj_heap_other (w := W) (r := w0.heap.size) (o := .deferred none) (k := h) (by omega)).trans R0.out) rfl
    have z1 := blk_cell (i := 0) ((World.putObj_heap_other (w := W) (r := w0.heap.size) (o := .deferred none) (k := h + 1) (by omega)).trans R1.out) rfl
    refine ⟨.tuple #[.slice none 0 0, .bool false], ?_, ?_⟩
    · rw [hs0] at z0 z1 ⊢
      simp [results, Try.results53, go_sem, z0, z1, Result.andThen]
    · refine ⟨_, by rw [HB.out], by rw [HL.out]; exact World.ownsRow_nil _ _ _ _, ?_⟩
      rw [hh]
      exact below_put BEL.out (by omega) HK.out
end Go.Proofs.Ythlkflneldjnjaa
