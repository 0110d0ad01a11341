/- Lines of fields (layer 9): Unfold and All, the program's. -/
import Derived.Test.YtcbfhlnnfnpkdaaGreatDoorFua
import Derived.Test.YtcbfhlnnfnpkdaaGreatDoorHde
import Derived.Test.YtcbfhlnnfnpkdaaGreatDoorShh
import Derived.Shelf.Strings.SlTrimAscii
import Derived.Deep.RegionHeld3
import Derived.Deep.DeepCutAuto
namespace Go.Proofs.YtcbfhlnnfnpkdaaGreatDoor
open Go.RowKit
set_option linter.unusedVariables false
set_option linter.unusedSimpArgs false

def bl9 : ByteArray := ⟨#[32, 9]⟩
theorem bl9_con (b : UInt8) : bl9.data.toList.contains b = blankC b := by
  have e : ∀ n : Nat, n < 256 → bl9.data.toList.contains (UInt8.ofNat n) = blankC (UInt8.ofNat n) := by decide +kernel
  have := e b.toNat (UInt8.toNat_lt b)
  rwa [UInt8.ofNat_toNat] at this
theorem bl9_asc : ∀ (j : Nat) b, bl9.data.toList[j]? = some b → b.toNat < 128 := fun j b h => by
  have e : ∀ b ∈ bl9.data.toList, b.toNat < 128 := by decide
  exact e b (List.mem_of_getElem? h)
theorem trimR9 (s : ByteArray) : (⟨(Lib.trimRightS s.data.toList bl9.data.toList).toArray⟩ : ByteArray) = endB s := by
  unfold Lib.trimRightS endB endL
  have e : (fun c => bl9.data.toList.contains c) = blankC := funext bl9_con
  rw [e]
theorem tr9_any (s : ByteArray) (w : World) (hs : s.size ≤ maxLen) : Calls Tryz.prog 111 #[.string s, .string ⟨#[32, 9]⟩] w fun e w' => e = .returned (.string (endB s)) ∧ Below w.heap.size w w' :=
  (Any.strings_TrimRight_laid Tryz.lays162 (by kernel_rfl) s bl9 w hs (by decide) bl9_asc).mono fun _ _ h => ⟨by rw [h.1, trimR9], h.2⟩
theorem ix9 : ∀ n, n < 256 → decide (Lib.indexByte [32, 9] n.toUInt8 < 0) = !blankN n := by decide +kernel
theorem ix9_any (c : Nat) (w : World) (hc : c < 256) : Calls Tryz.prog 110 #[.string ⟨#[32, 9]⟩, .int .u8 c] w fun e w' => (∃ r : Int, e = .returned (.int .i64 r) ∧ decide (r < 0) = !blankN c) ∧ w = w' :=
  (Tryz.strings_IndexByte _ _ _).mono fun _ _ h => ⟨⟨_, h.1, ix9 c hc⟩, h.2.symm⟩
/-- A cell of a row of the call's own, set. -/
theorem own_set_at {w : World} {B : Nat} {e : TypeId} {g cap n : Nat} {xs : List Value} (h : w.ownsRow B e 1 (.slice (some ⟨g, 0, none⟩) n cap) n xs) (i : Nat) (u : Value) :
    (w.setCell ⟨g, i, none⟩ u).ownsRow B e 1 (.slice (some ⟨g, 0, none⟩) n cap) n (xs.set i u) := by
  refine ⟨by rw [List.length_set]; exact h.1, ?_⟩
  rcases h.2 with ⟨h0, _⟩ | ⟨g', cap', cur, hv, hB, hh, hn, hc, hs, ht⟩
  · cases h0
  · cases hv
    refine .inr ⟨g, cap, cur.setIfInBounds i u, rfl, hB, blk_set hh u, hn, hc, by rw [Array.size_setIfInBounds]; exact hs, ?_⟩
    rw [Array.toList_setIfInBounds, List.take_set, ht]
theorem svH_len (l : List ByteArray) : (svH l).length = l.length := by
  induction l with
  | nil => rfl
  | cons x l ih => show (_ :: svH l).length = _; simp [ih]
theorem svH_last (V : List ByteArray) (a x : ByteArray) : (svH (V ++ [a])).set V.length (.string x) = svH (V ++ [x]) := by
  rw [svH_snoc, svH_snoc, List.set_append_right _ _ (by rw [svH_len]; exact Nat.le_refl _), svH_len, Nat.sub_self]
  rfl
/-- What the closure keeps. -/
structure UfB (h : Nat) (fold : Int) (W : List ByteArray) (w : World) : Prop where
  cf : w.heap[h]? = some (.cells #[.int .i64 fold] 3 (0, 0))
  cw : ∃ v, w.heap[h + 1]? = some (.cells #[v] 24 (0, 0)) ∧ w.ownsRow (h + 2) 9 1 v W.length (svH W)
def AddP (h : Nat) (fold : Int) (W : List ByteArray) (s : ByteArray) (w : World) (e : Ending) (w' : World) : Prop :=
  Below h w w' ∧ ((∃ W', ufStep fold (some W) s = some W' ∧ e = .returned (.bool true) ∧ UfB h fold W' w') ∨ (ufStep fold (some W) s = none ∧ e = .returned (.bool false)))
theorem grown_at {wr w' : World} {o : Obj} {row : Option Nat} {k : Nat} {ob : Obj} (hg : (wr.alloc o).grownBy w' row) (hk : wr.heap[k]? = some ob) (h : row ≠ some k) : w'.heap[k]? = some ob :=
  (hg.block k (by have := blk_lt hk; simp; omega) (fun e => h e.symm)).trans (blk_alloc hk)
set_option maxRecDepth 100000 in
set_option maxHeartbeats 4000000 in
theorem uf_add (h : Nat) (fold : Int) (W : List ByteArray) (s : ByteArray) (w : World) (H : UfB h fold W w) (hs : s.size ≤ 100000) (hW : W.length ≤ 100000) (hz : ∀ x ∈ W, x.size ≤ 1000000000) :
    Calls Tryz.prog 109 #[.string s, .pointer (some ⟨h + 1, 0, none⟩), .pointer (some ⟨h, 0, none⟩)] w (AddP h fold W s w) := by
  obtain ⟨cf, v, cw, own⟩ := H
  obtain ⟨av, cv, rfl⟩ := own_lenH own
  have CF := Kp.mk cf
  have CW := Kp.mk cw
  have OW := Kp.mk own
  have lw := blk_lt cw
  have d0 := blk_cell (i := 0) cf rfl
  have d1 := blk_cell (i := 0) cw rfl
  have f1 := blk_free (i := 0) cw
  have B0 := Kp.mk (Below.refl h w)
  clear cf cw own
  cases hg : goesB s
  · have HN := Kp.mk (ufS_new (fold := fold) (W := W) hg)
    have hlen : (W.length + 1) * 16 ≤ 140737488355328 := by omega
    have hmx : W.length + 1 ≤ maxLen := by unfold maxLen; omega
    have hsz : h + 2 ≤ w.heap.size := by omega
    have HR := Kp.mk (fun k (e : (Value.slice av W.length cv).ownBlock = some k) => (OW.out.lt k e).1)
    by_cases h0 : s.size = 0
    · obtain rfl : s = ⟨#[]⟩ := (ByteArray.size_eq_zero_iff.1 h0).trans rfl
      clear hg h0
      go_enter Tryz.func109, Tryz.ntmps109
      go_wp2_with (at_builtin; refine app_any rfl _ _ _ _ rfl Tryz.underlying24 _ _ _ Tryz.infoSH rfl (by omega) (h + 2) _ _ _ rfl OW.out #[.string ⟨#[]⟩] rfl (fun u hu => by simp at hu; subst hu; rfl) _ rfl rfl hlen hmx hsz ?_; intro g' cap' w' h1 h2 h3; have G1 := Kp.mk h1; have G2 := Kp.mk h2; have Q1 := Kp.mk (grown_at h2 CW.out (fun e => by have := HR.out _ e; omega)); have Q0 := Kp.mk (grown_at h2 CF.out (fun e => by have := HR.out _ e; omega)); have d2 := blk_cell (i := 0) Q1.out rfl; have e2 := blk_free (i := 0) Q1.out; clear h1 h2 h3)
      go_ret
      refine ⟨((grown_bel OW.out hsz G2.out).mono (by omega)).setCell (Nat.le_succ h) _, .inl ⟨_, HN.out, rfl, blk_set_other Q0.out (by omega) _, _, blk_set Q1.out _, ?_⟩⟩
      rw [List.length_append, svH_snoc]
      exact ownsRow_setCell_below G1.out (by show h + 1 < h + 2; omega) _
    · have hb := bt_at s 0 (by omega)
      have q0 : (0 : Int) < (s.size : Int) := by omega
      have hx2 : ¬ s.toList = [] := fun e => h0 (by rw [ba_size', ← ByteArray.toList_eq, e]; rfl)
      have hx3 : s.toList.isEmpty = false := by rw [List.isEmpty_eq_false_iff]; exact hx2
      have hc : blankN (bt s 0) = false := by
        unfold goesB at hg
        rw [decide_eq_true (p := 0 < s.size) (by omega)] at hg
        exact hg
      have HI := Kp.mk (fun w => ix9_any (bt s 0) w (bt_lt s 0))
      rw [hc] at HI
      generalize bt s 0 = c0 at *
      clear hg hc
      go_enter Tryz.func109, Tryz.ntmps109
      go_wp2_with fail
      refine (HI.out _).mono ?_
      rintro e w1 ⟨⟨r, rfl, hr⟩, rfl⟩
      have hr2 : r < 0 := by simpa using hr
      clear hr
      go_wp2_with (at_builtin; refine app_any rfl _ _ _ _ rfl Tryz.underlying24 _ _ _ Tryz.infoSH rfl (by omega) (h + 2) _ _ _ rfl OW.out #[.string s] rfl (fun u hu => by simp at hu; subst hu; rfl) _ rfl rfl hlen hmx hsz ?_; intro g' cap' w' h1 h2 h3; have G1 := Kp.mk h1; have G2 := Kp.mk h2; have Q1 := Kp.mk (grown_at h2 CW.out (fun e => by have := HR.out _ e; omega)); have Q0 := Kp.mk (grown_at h2 CF.out (fun e => by have := HR.out _ e; omega)); have d2 := blk_cell (i := 0) Q1.out rfl; have e2 := blk_free (i := 0) Q1.out; clear h1 h2 h3)
      go_ret
      refine ⟨((grown_bel OW.out hsz G2.out).mono (by omega)).setCell (Nat.le_succ h) _, .inl ⟨_, HN.out, rfl, blk_set_other Q0.out (by omega) _, _, blk_set Q1.out _, ?_⟩⟩
      rw [List.length_append, svH_snoc]
      exact ownsRow_setCell_below G1.out (by show h + 1 < h + 2; omega) _
  · obtain ⟨h0, h1⟩ : 0 < s.size ∧ blankN (bt s 0) = true := by
      unfold goesB at hg
      rw [Bool.and_eq_true, decide_eq_true_eq] at hg
      exact hg
    have hb := bt_at s 0 h0
    have q0 : (0 : Int) < (s.size : Int) := by omega
    have hx2 : ¬ s.toList = [] := fun e => by have := h0; rw [ba_size', ← ByteArray.toList_eq, e] at this; cases this
    have hx3 : s.toList.isEmpty = false := by rw [List.isEmpty_eq_false_iff]; exact hx2
    have HI := Kp.mk (fun w => ix9_any (bt s 0) w (bt_lt s 0))
    rw [h1] at HI
    generalize bt s 0 = c0 at *
    by_cases hf0 : fold = 0
    · subst hf0
      have HN := Kp.mk (ufS_zero (fold := 0) (W := W) hg (.inl rfl))
      clear hg h1
      go_enter Tryz.func109, Tryz.ntmps109
      go_wp2_with fail
      refine (HI.out _).mono ?_
      rintro e w1 ⟨⟨r, rfl, hr⟩, rfl⟩
      have hr2 : ¬ r < 0 := by simpa using hr
      clear hr
      go_wp2_with fail
      go_ret
      exact ⟨B0.out, .inr ⟨HN.out, rfl⟩⟩
    · have qf : (fold == 0) = false := beq_eq_false_iff_ne.2 hf0
      rcases List.eq_nil_or_concat W with rfl | ⟨V, a, e⟩
      · have HN := Kp.mk (ufS_zero (fold := fold) (W := []) hg (.inr rfl))
        clear hg h1
        go_enter Tryz.func109, Tryz.ntmps109
        go_wp2_with fail
        refine (HI.out _).mono ?_
        rintro e w1 ⟨⟨r, rfl, hr⟩, rfl⟩
        have hr2 : ¬ r < 0 := by simpa using hr
        clear hr
        go_wp2_with fail
        go_ret
        exact ⟨B0.out, .inr ⟨HN.out, rfl⟩⟩
      · rw [List.concat_eq_append] at e
        have hVl : W.length = V.length + 1 := by rw [e, List.length_append]; rfl
        have HN := Kp.mk (show ufStep fold (some W) s = some (V ++ [joinT a s]) by rw [e]; exact ufS_join hg hf0)
        have haz := hz a (by rw [e]; simp)
        have HR := rds_own OW.out
        obtain ⟨g, o, he, hgl, dd⟩ := rds_cells HR (by omega)
        have d5 := dd V.length (by omega)
        have el : W[V.length]'(by omega) = a := by simp [e]
        rw [el] at d5
        obtain ⟨rfl, rfl⟩ : av = some ⟨g, 0, none⟩ ∧ o = 0 := by
          rcases OW.out.2 with ⟨_, h9⟩ | ⟨g', cap', cur, hv, _⟩
          · omega
          · simp at hv; obtain ⟨hv, _⟩ := hv; rw [hv] at he; simp at he; exact ⟨by rw [hv, he.1], he.2.symm⟩
        have hgB := (OW.out.lt g rfl).1
        have hWs : svH W = svH (V ++ [a]) := by rw [e]
        have OW2 := Kp.mk OW.out
        rw [hWs] at OW2
        have fg : w.frozen? ⟨g, V.length, none⟩ = false := by
          rcases OW.out.2 with ⟨_, h9⟩ | ⟨g', cap', cur, hv, _, hh, _⟩
          · omega
          · cases hv; exact blk_free hh
        rw [Nat.zero_add] at d5
        clear hg h1 hz HR dd el he e hWs
        generalize W.length = n at *
        have HVL := Kp.mk hVl
        have p0 : ¬ (n : Int) = 0 := by omega
        have pw : IntKind.i64.wrap ((n : Int) - 1) = (V.length : Int) := by rw [wrap_small _ (by omega) (by omega)]; omega
        have p1 : (0 : Int) ≤ (V.length : Int) := by omega
        have p2 : (V.length : Int) < (n : Int) := by omega
        have sA : (endB a).size ≤ 1000000000 := by have := endB_le a; omega
        have sB : (trimB s).size ≤ 100000 := by have := trimB_size s; omega
        have HJ := Kp.mk (show joinT a s = endB a ++ ⟨#[32]⟩ ++ trimB s from rfl)
        have hsA : (endB a ++ ⟨#[32]⟩ : ByteArray).size ≤ 1000000001 := by rw [ByteArray.size_append]; have : (⟨#[32]⟩ : ByteArray).size = 1 := rfl; omega
        have k1 : ¬ 9223372036854775807 < (endB a).size + 1 := by omega
        have k2 : ¬ 9223372036854775807 < (endB a).size + 1 + (trimB s).size := by omega
        have k3 : ¬ 9223372036854775807 < (endB a ++ ⟨#[32]⟩ : ByteArray).size + (trimB s).size := by omega
        clear hVl
        go_enter Tryz.func109, Tryz.ntmps109
        go_wp2_with fail
        refine (HI.out _).mono ?_
        rintro e w1 ⟨⟨r, rfl, hr⟩, rfl⟩
        have hr2 : ¬ r < 0 := by simpa using hr
        clear hr
        go_upto_region 7 with fail
        have HD := Kp.mk (show Below w.heap.size w w.drew from (Below.refl _ _).drew)
        have hgh : h + 1 ≠ g := by omega
        have d6 := (HD.out.cell (p := ⟨g, V.length, none⟩) (by show g < _; omega)).trans d5
        have d7 := (HD.out.frozen (p := ⟨g, V.length, none⟩) (by show g < _; omega)).trans fg
        have KS := Kp.mk (fun (W : World) (u : Value) (hW : W.cell? ⟨h + 1, 0, none⟩ = some (.slice (some ⟨g, 0, none⟩) n cv)) => show (W.setCell ⟨g, V.length, none⟩ u).cell? ⟨h + 1, 0, none⟩ = some (.slice (some ⟨g, 0, none⟩) n cv) from by rw [World.cell?_setCell_other _ _ _ _ (by intro e; injection e with e1; omega)]; exact hW)
        have DT := Kp.mk (fun {W : World} (hb : Below w.heap.size w W) => (hb.cell (p := ⟨h + 1, 0, none⟩) (by show h + 1 < _; omega)).trans d1)
        refine wp_region_held_drew (S := fun w' => w'.cell? ⟨h + 1, 0, none⟩ = some (.slice (some ⟨g, 0, none⟩) n cv)) (by kernel_rfl) (DT.out HD.out) (fun hHeld => ?_)
        refine wpAnyH_take (i := 0) (oi := ⟨some 30, .load 24 (.tmp 1), _, _, _, none⟩) (v := ?_) rfl (by kernel_rfl) (by kernel_rfl) (by kernel_rfl) (fun _ _ _ h => h) (Or.inl ⟨by rfl, ?_⟩) (by assumption) ?_
        rotate_left
        · intro w hSw
          try dsimp only at hSw
          go_simp
          try with_reducible rfl
        try simp only [Act.put, List.setIfInBounds_toArray, List.set_cons_zero, List.set_cons_succ]
        refine wpAnyH_take (i := 1) (oi := ⟨some 31, .move (.tmp 5), _, _, _, none⟩) (v := ?_) rfl (by kernel_rfl) (by kernel_rfl) (by kernel_rfl) (fun _ _ _ h => h) (Or.inl ⟨by rfl, ?_⟩) (by assumption) ?_
        rotate_left
        · intro w hSw
          try dsimp only at hSw
          go_simp
          try with_reducible rfl
        try simp only [Act.put, List.setIfInBounds_toArray, List.set_cons_zero, List.set_cons_succ]
        refine wpAnyH_take (i := 2) (oi := ⟨some 32, .load 24 (.tmp 1), _, _, _, none⟩) (v := ?_) rfl (by kernel_rfl) (by kernel_rfl) (by kernel_rfl) (fun _ _ _ h => h) (Or.inl ⟨by rfl, ?_⟩) (by assumption) ?_
        rotate_left
        · intro w hSw
          try dsimp only at hSw
          go_simp
          try with_reducible rfl
        try simp only [Act.put, List.setIfInBounds_toArray, List.set_cons_zero, List.set_cons_succ]
        refine wpAnyH_take (i := 3) (oi := ⟨some 33, .move (.tmp 5), _, _, _, none⟩) (v := ?_) rfl (by kernel_rfl) (by kernel_rfl) (by kernel_rfl) (fun _ _ _ h => h) (Or.inl ⟨by rfl, ?_⟩) (by assumption) ?_
        rotate_left
        · intro w hSw
          try dsimp only at hSw
          go_simp
          try with_reducible rfl
        try simp only [Act.put, List.setIfInBounds_toArray, List.set_cons_zero, List.set_cons_succ]
        refine wpAnyH_take (i := 4) (oi := ⟨some 34, .indexAddr 24 (.tmp 32) (.tmp 33), _, _, _, none⟩) (v := ?_) rfl (by kernel_rfl) (by kernel_rfl) (by kernel_rfl) (fun _ _ _ h => h) (Or.inl ⟨by rfl, ?_⟩) (by assumption) ?_
        rotate_left
        · intro w hSw
          try dsimp only at hSw
          go_simp
          try with_reducible rfl
        try simp only [Act.put, List.setIfInBounds_toArray, List.set_cons_zero, List.set_cons_succ]
        refine wpAnyH_take (i := 8) (oi := ⟨some 38, .move (.tmp 0), _, _, _, none⟩) (v := ?_) rfl (by kernel_rfl) (by kernel_rfl) (by kernel_rfl) (fun _ _ _ h => h) (Or.inl ⟨by rfl, ?_⟩) (by assumption) ?_
        rotate_left
        · intro w hSw
          try dsimp only at hSw
          go_simp
          try with_reducible rfl
        try simp only [Act.put, List.setIfInBounds_toArray, List.set_cons_zero, List.set_cons_succ]
        refine wpAnyH_ready (rs := [5]) (by kernel_rfl) (by simp) ?_
        refine AllReadyH.cons (o := ⟨some 35, .load 9 (.tmp 34), _, _, _, none⟩) rfl (fun K hK => ?_) AllReadyH.nil
        go_simp
        refine hK.out _ _ (DT.out HD.out) (fun hHeld2 => ?_)
        clear hK K
        try simp only [Act.put, List.setIfInBounds_toArray, List.set_cons_zero, List.set_cons_succ]
        refine wpAnyH_ready (rs := [6]) (by kernel_rfl) (by simp) ?_
        refine AllReadyH.cons (o := ⟨some 36, _, _, _, _, none⟩) rfl (fun K hK => ?_) AllReadyH.nil
        go_simp
        (go_at_call 111; refine (tr9_any a _ (by unfold maxLen; omega)).mono ?_; rintro e wn ⟨rfl, hb⟩; replace HD := Kp.mk (HD.out.trans (hb.mono HD.out.size)); clear hb; have dz := (HD.out.cell (p := ⟨g, V.length, none⟩) (by show g < _; omega)).trans d5; have fz := (HD.out.frozen (p := ⟨g, V.length, none⟩) (by show g < _; omega)).trans fg)
        try go_wp2_with fail
        refine hK.out _ _ (DT.out HD.out) (fun hHeld2 => ?_)
        clear hK K
        try simp only [Act.put, List.setIfInBounds_toArray, List.set_cons_zero, List.set_cons_succ]
        refine wpAnyH_take (i := 7) (oi := ⟨some 37, .binOp .add 9 (.tmp 36) (.const (.string ⟨#[32]⟩)) 9, _, _, _, none⟩) (v := ?_) rfl (by kernel_rfl) (by kernel_rfl) (by kernel_rfl) (fun _ _ _ h => h) (Or.inl ⟨by rfl, ?_⟩) (by assumption) ?_
        rotate_left
        · intro w hSw
          try dsimp only at hSw
          go_simp
          try with_reducible rfl
        try simp only [Act.put, List.setIfInBounds_toArray, List.set_cons_zero, List.set_cons_succ]
        refine wpAnyH_ready (rs := [9]) (by kernel_rfl) (by simp) ?_
        refine AllReadyH.cons (o := ⟨some 39, _, _, _, _, none⟩) rfl (fun K hK => ?_) AllReadyH.nil
        go_simp
        (go_at_call 95; refine (oct_trim_any s _ (by unfold maxLen; omega)).mono ?_; rintro e wn ⟨rfl, hb⟩; replace HD := Kp.mk (HD.out.trans (hb.mono HD.out.size)); clear hb; have dz := (HD.out.cell (p := ⟨g, V.length, none⟩) (by show g < _; omega)).trans d5; have fz := (HD.out.frozen (p := ⟨g, V.length, none⟩) (by show g < _; omega)).trans fg)
        try go_wp2_with fail
        refine hK.out _ _ (DT.out HD.out) (fun hHeld2 => ?_)
        clear hK K
        try simp only [Act.put, List.setIfInBounds_toArray, List.set_cons_zero, List.set_cons_succ]
        refine wpAnyH_take (i := 10) (oi := ⟨some 40, .binOp .add 9 (.tmp 37) (.tmp 39) 9, _, _, _, none⟩) (v := ?_) rfl (by kernel_rfl) (by kernel_rfl) (by kernel_rfl) (fun _ _ _ h => h) (Or.inl ⟨by rfl, ?_⟩) (by assumption) ?_
        rotate_left
        · intro w hSw
          try dsimp only at hSw
          go_simp
          try with_reducible rfl
        try simp only [Act.put, List.setIfInBounds_toArray, List.set_cons_zero, List.set_cons_succ]
        refine wpAnyH_take (i := 11) (oi := ⟨some 41, .indexAddr 24 (.tmp 30) (.tmp 31), _, _, _, none⟩) (v := ?_) rfl (by kernel_rfl) (by kernel_rfl) (by kernel_rfl) (fun _ _ _ h => h) (Or.inl ⟨by rfl, ?_⟩) (by assumption) ?_
        rotate_left
        · intro w hSw
          try dsimp only at hSw
          go_simp
          try with_reducible rfl
        try simp only [Act.put, List.setIfInBounds_toArray, List.set_cons_zero, List.set_cons_succ]
        refine wpAnyH_ready (rs := [12]) (by kernel_rfl) (by simp) ?_
        refine AllReadyH.cons (o := ⟨none, _, _, _, _, none⟩) rfl (fun K hK => ?_) AllReadyH.nil
        go_simp
        refine hK.out _ _ (KS.out _ _ (DT.out HD.out)) (fun hHeld2 => ?_)
        clear hK K
        try simp only [Act.put, List.setIfInBounds_toArray, List.set_cons_zero, List.set_cons_succ]
        refine wpAnyH_done (by kernel_rfl) ?_ _
        go_wp2_with fail
        go_ret
        refine ⟨((HD.out.mono (by omega)).setCell (by show h ≤ g; omega) _), .inl ⟨_, HN.out, rfl, ?_, .slice (some ⟨g, 0, none⟩) n cv, ?_, ?_⟩⟩
        · exact blk_set_other ((HD.out.block h (by omega)).trans CF.out) (by omega) _
        · exact blk_set_other ((HD.out.block (h + 1) (by omega)).trans CW.out) (by omega) _
        · have q := own_set_at (own_bel OW2.out HD.out) V.length (.string (joinT a s))
          rw [svH_last] at q
          rw [List.length_append]
          show World.ownsRow _ _ _ _ _ (V.length + 1) _
          rw [← HVL.out]
          exact q
end Go.Proofs.YtcbfhlnnfnpkdaaGreatDoor
