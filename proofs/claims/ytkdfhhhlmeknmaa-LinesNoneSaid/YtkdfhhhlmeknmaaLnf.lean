/- Lines that are taken out of octets: the lines of texts, one behind the other (layer 16). -/
import Derived.Test.YtkdfhhhlmeknmaaLne
namespace Go.Proofs.Ytkdfhhhlmeknmaa
open Go.RowKit
set_option linter.unusedVariables false
set_option linter.unusedSimpArgs false

/-- What feed's world keeps: lines' thing in b, the rows told in a row of the call's own. -/
structure FeedAt (b most : Nat) (w0 : World) (g0 : Option Nat) (F : Fo) (v tv : Value) (w : World) : Prop where
  lin : LinAt b most F.2 tv w
  own : w.ownsRow w0.heap.size 9 1 v F.1.length (svC (F.1.map mkB))
  only : Onl b g0 w0 w
  nxt : Nxt w0 g0 tv.ownBlock
  blt : b < w0.heap.size
theorem own_ty_ne {w : World} {B B2 : Nat} {e e2 : TypeId} {sz sz2 n n2 : Nat} {v v2 : Value} {xs xs2 : List Value} (h : w.ownsRow B e sz v n xs) (h2 : w.ownsRow B2 e2 sz2 v2 n2 xs2) (hne : e ≠ e2) : ∀ k, v.ownBlock = some k → v2.ownBlock ≠ some k := by
  intro k hk hk2
  rcases h.2 with ⟨rfl, _⟩ | ⟨g, cap, cur, rfl, _, hg, _⟩
  · simp [Value.ownBlock] at hk
  · rcases h2.2 with ⟨rfl, _⟩ | ⟨g2, cap2, cur2, rfl, _, hg2, _⟩
    · simp [Value.ownBlock] at hk2
    · simp [Value.ownBlock] at hk hk2
      subst hk; subst hk2
      rw [hg] at hg2
      cases hg2
      exact hne rfl
theorem u8str : (9 : TypeId) ≠ 5 := by decide
/-- Behind a call on the thing. -/
theorem FeedAt.call {b most : Nat} {w0 w w' : World} {g0 : Option Nat} {F : Fo} {v tv : Value} {st : LS} (h : FeedAt b most w0 g0 F v tv w) (ht : LinTo b most st tv w w') : ∃ tv', FeedAt b most w0 g0 (F.1, st) v tv' w' := by
  obtain ⟨tv', h1, h2, h3⟩ := ht
  refine ⟨tv', h1, h2.own h.own ?_ ?_, h.only.trans h.nxt h2, h.nxt.trans h.only.size h3, h.blt⟩
  · intro e
    have := (h.own.lt b e).1
    have := h.blt
    omega
  · exact own_ty_ne h.own h.lin.own u8str
/-- Behind a line more. -/
theorem FeedAt.app {b most : Nat} {w0 w w' : World} {g0 : Option Nat} {F : Fo} {v tv : Value} {t : List UInt8} {g' cap' : Nat} (h : FeedAt b most w0 g0 F v tv w)
    (ho : w'.ownsRow w0.heap.size 9 1 (.slice (some ⟨g', 0, none⟩) (F.1.length + 1) cap') (F.1.length + 1) (svC (F.1.map mkB) ++ (#[.string (mkB t)] : Array Value).toList))
    (hg : (w.alloc (.cells #[.string (mkB t)] 9)).grownBy w' v.ownBlock) : FeedAt b most w0 g0 (F.1 ++ [t], F.2) (.slice (some ⟨g', 0, none⟩) (F.1.length + 1) cap') tv w' := by
  have hvb : ∀ k, v.ownBlock = some k → w0.heap.size ≤ k := fun k hk => (h.own.lt k hk).1
  refine ⟨?_, ?_, (h.only.alloc _).grown_new hg hvb, h.nxt, h.blt⟩
  · refine h.lin.kept fun k hk hor => ?_
    have e1 : (w.alloc (.cells #[.string (mkB t)] 9)).heap[k]? = w.heap[k]? := Below.heap_alloc _ _ _ hk
    rw [hg.block k (by simp; omega) ?_, e1]
    rcases hor with rfl | hor
    · intro e
      have := hvb _ e.symm
      have := h.blt
      omega
    · intro e
      exact own_ty_ne h.own h.lin.own u8str k e.symm hor
  · rw [List.length_append, List.map_append, List.map_cons, List.map_nil, svC_snoc]
    exact ho
theorem FeedAt.below {b most : Nat} {w0 w w' : World} {g0 : Option Nat} {F : Fo} {v tv : Value} (h : FeedAt b most w0 g0 F v tv w) (hb : Below w.heap.size w w') : FeedAt b most w0 g0 F v tv w' :=
  ⟨h.lin.below hb, ⟨h.own.1, by
    rcases h.own.2 with hn | ⟨k, cap, cur, rfl, hb0, hk, rest⟩
    · exact .inl hn
    · exact .inr ⟨k, cap, cur, rfl, hb0, (hb.block k (Array.getElem?_eq_some_iff.1 hk).1).trans hk, rest⟩⟩, h.only.then_below hb, h.nxt, h.blt⟩
def FeedPost (b most : Nat) (w0 : World) (g0 : Option Nat) (ps : List ByteArray) (e : Ending) (w' : World) : Prop :=
  ∃ v tv, e = .returned (.tuple #[v, .int .i64 (all16 most (catL ps)).2.spent, .int .i64 (all16 most (catL ps)).2.err]) ∧ FeedAt b most w0 g0 (all16 most (catL ps)) v tv w'
theorem catL_take {ps : List ByteArray} {k : Nat} (h : k < ps.length) : catL ps = catL (ps.take k) ++ (ps[k].data.toList ++ catL (ps.drop (k + 1))) := by
  have e : ps = ps.take k ++ (ps[k] :: ps.drop (k + 1)) := by rw [← List.drop_eq_getElem_cons h, List.take_append_drop]
  have e2 : catL ps = catL (ps.take k ++ (ps[k] :: ps.drop (k + 1))) := congrArg catL e
  exact e2.trans (by unfold catL; rw [List.flatMap_append, List.flatMap_cons])
theorem catL_len {l : List ByteArray} (h : ∀ t ∈ l, t.size ≤ 2000) : (catL l).length ≤ l.length * 2000 := by
  induction l with
  | nil => simp [catL]
  | cons s l ih =>
    have e : catL (s :: l) = s.data.toList ++ catL l := by simp [catL]
    have := ih fun t ht => h t (by simp [ht])
    have h2 := h s (by simp)
    rw [e, List.length_append, List.length_cons, ← ba_size']
    omega
def szV : Value → Nat | .string s => s.size | _ => 0
theorem emp_no {x : ByteArray} (h : x.size ≠ 0) : x.toList.isEmpty = false ∧ ¬ (x.toList = []) := by
  have h2 : ¬ (x.toList = []) := by
    intro hh
    rw [ByteArray.toList_eq, ← List.length_eq_zero_iff] at hh
    exact h (by simpa using hh)
  refine ⟨?_, h2⟩
  cases hh : x.toList.isEmpty
  · rfl
  · rw [List.isEmpty_iff] at hh; exact absurd hh h2
theorem emp_yes {x : ByteArray} (h : x.size = 0) : x.toList = [] := by rw [ByteArray.toList_eq, ← List.length_eq_zero_iff]; simpa using h
theorem ext_list (x : ByteArray) (n : Nat) : (x.extract n x.size).data.toList = x.data.toList.drop n := by
  rw [Lib.extract_data, List.take_of_length_le (by simp)]
set_option maxRecDepth 100000 in
set_option maxHeartbeats 4000000 in
theorem feedall_any (b most : Nat) (tv0 v : Value) (ps : List ByteArray) (w : World) (h : LinAt b most ls0 tv0 w) (hv : RdS w v ps) (hvb : 0 < ps.length → v.ownBlock ≠ some b) (hvt : 0 < ps.length → ∀ k, v.ownBlock = some k → tv0.ownBlock ≠ some k)
    (hsz : ∀ t ∈ ps, t.size ≤ 4000) (hpl : ps.length ≤ 200) (hcat : (catL ps).length ≤ 4000) :
    Calls Try.prog 18 #[.pointer (some ⟨b, 0, none⟩), v] w (FeedPost b most w tv0.ownBlock ps) := by
  have HV := Kp.mk hv
  have HSZ := Kp.mk hsz
  have HCAT := Kp.mk hcat
  have hblt := blk_lt h.blk
  obtain ⟨a1, c1, rfl, m1, x1, -⟩ := hv.strs
  have H0 := Kp.mk (show FeedAt b most w tv0.ownBlock ([], ls0) (.slice (some ⟨w.heap.size, 0, none⟩) 0 0) tv0 (w.alloc (.cells #[] 9)) from
    ⟨h.below ((Below.refl _ _).alloc (Nat.le_refl _) _), World.ownsRow_lit (base := w.heap.size) (e := 9) (size := 1) w #[] 0 (Nat.le_refl _) (by unfold maxLen; omega) rfl, (Onl.refl _ _ _).alloc _, Nxt.refl _ _, hblt⟩)
  have HVB := Kp.mk hvb
  have HVT := Kp.mk hvt
  have hml := h.most_le
  clear h hv hsz hcat x1 hvb hvt
  go_enter Try.func18, Try.ntmps18
  go_wp2_with fail
  go_loopw [7, 8, 16] (fun out sum i wr => ∃ (k : Nat) (F : Fo) (tv : Value), k ≤ ps.length ∧ i = .int .i64 k ∧ F = all16 most (catL (ps.take k)) ∧ F.2.err = 0 ∧ sum = .int .i64 F.2.spent ∧ FeedAt b most w tv0.ownBlock F out tv wr) (fun _ _ i _ => ps.length - (intOf i).toNat)
  case atStart => exact ⟨0, ([], ls0), tv0, by omega, rfl, rfl, rfl, rfl, H0.out⟩
  case round =>
    obtain ⟨k, F, tv, hk, rfl, hF, hFe, rfl, hat⟩ := hrel
    have HF := Kp.mk hF
    have HFE := Kp.mk hFe
    have HAT := Kp.mk hat
    obtain ⟨ao, co, rfl⟩ := own_len hat.own
    clear hF hFe hat
    by_cases hlt : k < ps.length
    · obtain ⟨aa, cc, hvv, _, _, gg⟩ := (HAT.out.only.rdl HV.out (HVB.out (by omega)) (HVT.out (by omega))).strs
      cases hvv
      obtain ⟨b1, o1, rfl, k1, d1⟩ := gg (by omega)
      have e1 := d1 k hlt
      have HTS := Kp.mk (HSZ.out ps[k] (List.getElem_mem hlt))
      have q0 : (0 : Int) ≤ (k : Int) := by omega
      have q1 : (k : Int) < (ps.length : Int) := by omega
      have HCT := Kp.mk (catL_take hlt)
      have HTK := Kp.mk (take_snocB ps k hlt)
      clear d1 gg
      go_wp2_with fail
      generalize hT : ps[k] = T at *
      have HTT := Kp.mk hT
      clear hT
      obtain ⟨wo, hwo⟩ : ∃ wo : World, wo = wr := ⟨_, rfl⟩
      have HWO := Kp.mk hwo
      clear hwo
      go_loopw [7, 8, 10] (fun out sum s wr2 => ∃ (j : Nat) (x : ByteArray) (G : Fo) (tv2 : Value), j ≤ T.size ∧ s = .string x ∧ x.data.toList = T.data.toList.drop j ∧ G = all16 most (catL (ps.take k) ++ T.data.toList.take j) ∧ G.2.err = 0 ∧ sum = .int .i64 G.2.spent ∧ FeedAt b most w tv0.ownBlock G out tv2 wr2) (fun _ _ s _ => szV s)
      case atStart => exact ⟨0, T, F, tv, by omega, rfl, rfl, by rw [HF.out]; simp, HFE.out, rfl, HAT.out⟩
      case round =>
        obtain ⟨j, x, G, tv2, hj, rfl, hx, hG, hGe, rfl, hat2⟩ := hrel
        have HX := Kp.mk hx
        have HG := Kp.mk hG
        have HGE := Kp.mk hGe
        have HAT2 := Kp.mk hat2
        obtain ⟨ao2, co2, rfl⟩ := own_len hat2.own
        clear hx hG hGe hat2
        have hxz : x.size = T.size - j := by rw [ba_size', HX.out, List.length_drop, ← ba_size']
        have hxs : x.size ≤ 4000 := by have := HTS.out; omega
        have hok := all16_ok most (catL (ps.take k) ++ T.data.toList.take j)
        rw [← HG.out] at hok
        have hgl : G.1.length ≤ 3000 := by
          have h1 := hok.lines
          have h2 := hok.spent
          have h3 := HCT.out
          have h4 := HCAT.out
          have h5 := congrArg List.length h3
          rw [List.length_append, List.length_append, ← ba_size'] at h5
          rw [List.length_append, List.length_take, ← ba_size', Nat.min_eq_left hj] at h2
          omega
        have hgs : G.2.spent ≤ 65536 := Nat.le_trans HAT2.out.lin.spent_le hml
        have HNW := Kp.mk hok.nowhole
        have HXZ := Kp.mk hxz
        clear hok hxz
        by_cases hx0 : x.size = 0
        · have hxe := emp_yes hx0
          have HX0 := Kp.mk hx0
          clear hx0
          go_wp2_with fail
          go_roundw
          case rel =>
            have h1 := HXZ.out
            have h2 := HX0.out
            have hj2 : j = T.size := by omega
            refine ⟨k + 1, G, tv2, by omega, by go_num, ?_, HGE.out, rfl, HAT2.out⟩
            rw [HG.out, HTK.out, catL_snoc, hj2, List.take_of_length_le (Nat.le_of_eq (ba_size' T).symm)]
          case measure => simp [intOf]; omega
        · obtain ⟨hxe, hxe2⟩ := emp_no hx0
          have HX0 := Kp.mk hx0
          have HRO := Kp.mk (run_of most G.1 x.data.toList G.2 HNW.out HGE.out)
          clear hx0
          go_wp2_with fail
          refine (feed_any x b most G.2 tv2 _ (by omega) HAT2.out.lin).mono ?_
          rintro e w3 ⟨rfl, hto⟩
          have HTO := Kp.mk (HAT2.out.call hto)
          clear hto
          generalize runS most G.2 x.data.toList = r at *
          obtain ⟨n, st⟩ := r
          obtain ⟨tv3, hat3⟩ := HTO.out
          have HAT3 := Kp.mk hat3
          clear hat3 HTO
          have hnl : n ≤ x.size := by have := HRO.out.le; simpa using this
          have HSP := Kp.mk (show st.spent = G.2.spent + n from HRO.out.spent)
          have hsp3 : st.spent ≤ 65536 := Nat.le_trans HAT3.out.lin.spent_le hml
          have HSPE := Kp.mk (show (G.2.spent : Int) + (n : Int) = (st.spent : Int) by have := HSP.out; omega)
          have HDR := Kp.mk (show ∀ m, all16 most (catL (ps.take k) ++ T.data.toList.take j ++ m) = foS most (G.1, G.2) m from fun m => by rw [all16_app, ← HG.out])
          rcases HRO.out.way with ⟨w1, w2, w3, w4⟩ | ⟨w1, w2, w3⟩ | ⟨w1, w2, w3, w4⟩
          · have W1 := Kp.mk (show st.whole = true from w1)
            have W3 := Kp.mk w3
            have hn1 : 1 ≤ n := w3
            have W2 := Kp.mk w2
            have W4 := Kp.mk w4
            clear w1 w2 w3 w4
            go_wp2_with fail
            refine (whole_any b most st tv3 _ HAT3.out.lin).mono ?_
            rintro e w4 ⟨rfl, rfl⟩
            rw [W1.out]
            go_wp2_with fail
            refine (line_yes b most st tv3 _ HAT3.out.lin W1.out).mono ?_
            rintro e w4 ⟨rfl, hto⟩
            have HTO := Kp.mk (HAT3.out.call hto)
            clear hto
            obtain ⟨tv4, hat4⟩ := HTO.out
            have HAT4 := Kp.mk hat4
            have hB4 : w.heap.size ≤ w4.heap.size := hat4.only.size
            clear hat4 HTO
            have hlen : (G.1.length + 1) * 16 ≤ 140737488355328 := by omega
            have hmx : G.1.length + 1 ≤ maxLen := by unfold maxLen; omega
            go_wp2_with (at_builtin; refine app_any rfl _ _ _ _ rfl Try.underlying22 _ _ _ Try.infoS rfl (by omega) w.heap.size _ _ _ rfl HAT4.out.own _ rfl (fun u hu => by simp at hu; subst hu; rfl) _ rfl rfl hlen hmx hB4 ?_; intro g' cap' w5 h1 h2 h3; have HAT5 := Kp.mk (HAT4.out.app (t := st.text) h1 h2); clear h1 h2 h3)
            go_roundw
            case rel =>
              refine ⟨j + n, x.extract n x.size, (G.1 ++ [st.text], { st with text := [], whole := false }), tv4, ?_, by first | rfl | simp, ?_, ?_, W2.out, ?_, ?_⟩
              · have := HXZ.out; omega
              · rw [ext_list, HX.out, List.drop_drop]
              · have h1 := HDR.out (x.data.toList.take n)
                rw [List.append_assoc, HX.out, ← List.take_add] at h1
                rw [h1, ← HX.out]
                exact W4.out.symm
              · rw [HSPE.out]
              · first | exact HAT5.out | (simp; exact HAT5.out)
            case measure =>
              simp [szV]; omega
          · have W1 := Kp.mk (show st.whole = false from w1)
            have W2 := Kp.mk w2
            have hez : (st.err == 0) = false := i64n w2
            have hez2 : (st.err != 0) = true := by rw [bne, hez]; rfl
            have HFIN := Kp.mk (show all16 most (catL ps) = (G.1, st) by
              have h1 := HDR.out x.data.toList
              rw [List.append_assoc, HX.out, List.take_append_drop, ← HX.out, w3] at h1
              rw [HCT.out, ← List.append_assoc, all16_stuck (by rw [h1]; exact w2), h1])
            clear w1 w2 w3
            go_wp2_with fail
            refine (whole_any b most st tv3 _ HAT3.out.lin).mono ?_
            rintro e w4 ⟨rfl, rfl⟩
            rw [W1.out]
            go_wp2_with fail
            go_ret3
            refine ⟨_, tv3, ?_, by rw [HFIN.out]; exact HAT3.out⟩
            rw [HFIN.out, HSPE.out]
            rfl
          · have W1 := Kp.mk (show st.whole = false from w1)
            have W2 := Kp.mk w2
            have hez : (st.err == 0) = true := i64b w2
            have hez2 : (st.err != 0) = false := by rw [bne, hez]; rfl
            have W4 := Kp.mk w4
            have hnx : n = x.size := by rw [ba_size']; exact w3
            subst hnx
            clear w1 w2 w3 w4
            go_wp2_with fail
            refine (whole_any b most st tv3 _ HAT3.out.lin).mono ?_
            rintro e w4 ⟨rfl, rfl⟩
            rw [W1.out]
            go_wp2_with fail
            go_roundw
            case rel =>
              refine ⟨j + x.size, x.extract x.size x.size, (G.1, st), tv3, ?_, by first | rfl | simp, ?_, ?_, W2.out, ?_, ?_⟩
              · have := HXZ.out; omega
              · rw [ext_list, HX.out, List.drop_drop]
              · have h1 := HDR.out x.data.toList
                rw [W4.out, List.append_assoc] at h1
                rw [← h1]
                congr 2
                rw [HX.out, List.take_append_drop, List.take_of_length_le]
                have := HXZ.out
                rw [← ba_size']; omega
              · rw [HSPE.out]
              · exact HAT3.out
            case measure =>
              have := HX0.out
              simp [szV]; omega
    · obtain rfl : k = ps.length := by omega
      have HFIN := Kp.mk (show all16 most (catL ps) = F by rw [HF.out, List.take_length])
      go_wp2_with fail
      go_ret3
      refine ⟨_, tv, ?_, by rw [HFIN.out]; exact HAT.out⟩
      rw [HFIN.out, HFE.out]
      rfl
theorem rds_own {w : World} {B : Nat} {v : Value} {l : List (List UInt8)} (h : w.ownsRow B 9 1 v l.length (svC (l.map mkB))) : RdS w v (l.map mkB) :=
  RdL.of_own (sz := 1) (B := B) (e := 9) (fun _ => rfl) (by rw [List.length_map]; exact h)
end Go.Proofs.Ytkdfhhhlmeknmaa
