/- Tally (layer 49): messages as data; the document's Fields and Heads. -/
import Derived.Test.YtocnecbhpofdgaaTln
import Derived.Test.YtocnecbhpofdgaaFew
import Derived.Test.YtocnecbhpofdgaaRta
import Derived.Deep.DeepCutAuto
namespace Go.Proofs.Ytocnecbhpofdgaa
open Go.RowKit Go.Shelf Go.Lib Go.Sort
set_option linter.unusedVariables false
set_option linter.unusedSimpArgs false

/-- A message's cells. -/
structure Msg where
  m : ByteArray
  t : ByteArray
  mi : Int
  st : Int
  r : ByteArray
  fa : Option Addr
  fn : Nat
  fc : Nat
  k : Int
  ln : Int
  b : ByteArray
  sa : Option Addr
  sn : Nat
  sc : Nat
  ta : Option Addr
  tn : Nat
  tc : Nat
def msgC (x : Msg) : List Value := [.string x.m, .string x.t, .int .i64 x.mi, .int .i64 x.st, .string x.r, .slice x.fa x.fn x.fc, .int .i64 x.k, .int .i64 x.ln, .string x.b, .slice x.sa x.sn x.sc, .slice x.ta x.tn x.tc]
theorem msgC_len (x : Msg) : (msgC x).length = 11 := rfl
def MsgOk (x : Msg) : Prop := x.m.size ≤ maxLen ∧ -9223372036854775808 ≤ x.st ∧ x.st ≤ 9223372036854775807
abbrev RdM (w : World) (v : Value) (l : List Msg) : Prop := RdL msgC 11 w v l
def MsgSm (x : Msg) : Prop := x.m.size ≤ 100000 ∧ -9223372036854775808 ≤ x.st ∧ x.st ≤ 9223372036854775807
/-- What is counted of messages: methods, or classes. -/
def keyM (meth : Bool) (x : Msg) : List ByteArray := if meth = true then (if x.m.size = 0 then [] else [x.m]) else (if x.m.size = 0 then [ofL (textL (x.st.tdiv 100)) ++ ⟨#[120, 120]⟩] else [])
def keysM (meth : Bool) (l : List Msg) : List ByteArray := l.flatMap (keyM meth)
theorem keysM_take {meth : Bool} {l : List Msg} {k : Nat} (h : k < l.length) : keysM meth (l.take (k + 1)) = keysM meth (l.take k) ++ keyM meth l[k] := by
  unfold keysM
  rw [List.take_succ_eq_append_getElem h, List.flatMap_append]
  simp
theorem keyM_len (meth : Bool) (x : Msg) : (keyM meth x).length ≤ 1 := by
  unfold keyM
  split <;> split <;> simp
theorem keysM_len (meth : Bool) : ∀ (l : List Msg), (keysM meth l).length ≤ l.length
  | [] => by simp [keysM]
  | x :: l => by
    have h1 := keysM_len meth l
    have h2 := keyM_len meth x
    unfold keysM at *
    simp only [List.flatMap_cons, List.length_append, List.length_cons]
    omega
theorem keysM_sz {meth : Bool} {l : List Msg} (h : ∀ x ∈ l, MsgSm x) : ∀ s ∈ keysM meth l, s.size ≤ 100023 := by
  intro s hs
  unfold keysM at hs
  obtain ⟨x, hx, hs⟩ := List.mem_flatMap.1 hs
  have h1 := (h x hx).1
  have h2 := textL_len (x.st.tdiv 100)
  unfold keyM at hs
  split at hs <;> split at hs
  · cases hs
  · simp at hs; subst hs; omega
  · simp at hs
    subst hs
    rw [ByteArray.size_append, ofL_size]
    have : (⟨#[120, 120]⟩ : ByteArray).size = 2 := rfl
    omega
  · cases hs
theorem quo_in {n : Int} (h0 : -9223372036854775808 ≤ n) (h1 : n ≤ 9223372036854775807) : -9223372036854775808 ≤ n.tdiv 100 ∧ n.tdiv 100 ≤ 9223372036854775807 := by
  rcases Int.le_total 0 n with h | h
  · rw [Int.tdiv_eq_ediv_of_nonneg h]; omega
  · have e : n.tdiv 100 = -((-n).tdiv 100) := by rw [Int.neg_tdiv]; omega
    rw [e, Int.tdiv_eq_ediv_of_nonneg (by omega)]; omega
theorem keysT_len (l : List Fld) : (keysT l).length = l.length := by unfold keysT; rw [List.length_map]
theorem keysT_sz {l : List Fld} (h : ∀ p ∈ l, FldSm p) : ∀ s ∈ keysT l, s.size ≤ 100000 := by
  intro s hs
  unfold keysT at hs
  obtain ⟨p, hp, rfl⟩ := List.mem_map.1 hs
  rw [lowB_size]
  exact (h p hp).1
theorem size_maxL {n : Nat} (h : n ≤ 200000) : n ≤ maxLen := by unfold maxLen; omega
def RetRd (K : List ByteArray) (w : World) (e : Ending) (w' : World) : Prop := ∃ u, e = .returned u ∧ w'.ownsRow w.heap.size 68 2 u (cntF K).length ((cntF K).flatMap encSrw) ∧ Below w.heap.size w w'
set_option maxRecDepth 100000 in
set_option maxHeartbeats 2000000 in
theorem rtfields_any (v : Value) (l : List Fld) (w : World) (hv : RdF w v l) (hz : ∀ p ∈ l, FldSm p) (hl : l.length ≤ 1000) :
    Calls Try.prog 12 #[v] w (RetRd (keysT l) w) := by
  have HV := Kp.mk hv
  have HZ := Kp.mk hz
  have HL := Kp.mk hl
  obtain ⟨a, c, rfl, hc1, hc2, -⟩ := hv
  unfold RetRd
  have HO := Kp.mk (show (w.alloc (.cells #[] 9)).ownsRow w.heap.size 9 1 (.slice (some ⟨w.heap.size, 0, none⟩) 0 0) 0 [] from own_empty _ _ rfl)
  have HB := Kp.mk ((Below.refl w.heap.size w).alloc (Nat.le_refl _) (.cells #[] 9))
  clear hz hc1 hc2
  go_enter Try.func12, Try.ntmps12
  go_wp2_with fail
  go_loopw [3, 4] (fun vo vi wr => ∃ (k c1 : Nat) (a1 : Option Addr), k ≤ l.length ∧ vi = .int .i64 k ∧ vo = .slice a1 k c1 ∧ wr.ownsRow w.heap.size 9 1 vo k ((keysT (l.take k)).flatMap strC) ∧ Below w.heap.size w wr) (fun _ vi _ => l.length - (intOf vi).toNat)
  case atStart => exact ⟨0, 0, _, Nat.zero_le _, rfl, rfl, HO.out, HB.out⟩
  case round =>
    obtain ⟨k, c1, a1, hk, rfl, rfl, ho, hb⟩ := hrel
    have HOK := Kp.mk ho
    have HBK := Kp.mk hb
    have hszk := hb.size
    clear ho hb
    by_cases hlt : k < l.length
    · obtain ⟨b, o, rfl, hbl, d⟩ := rdf_cells (HV.out.below HBK.out) (by omega)
      obtain ⟨d1, -⟩ := d k hlt
      have HS := Kp.mk (HZ.out _ (List.getElem_mem hlt))
      have HKT := Kp.mk (keysT_take hlt)
      clear d
      generalize l[k] = f at *
      obtain ⟨x, y⟩ := f
      dsimp only at d1 HS HKT
      have hlen : (k + 1) * 16 ≤ 140737488355328 := by omega
      have hmx : k + 1 ≤ maxLen := by unfold maxLen; omega
      have q1 : (k : Int) < (l.length : Int) := by omega
      have q0 : (0 : Int) ≤ (k : Int) := by omega
      go_wp2_with fail
      refine (ref_lower_any x _ (by have := HS.out.1; dsimp only at this; omega)).mono ?_
      rintro e w2 ⟨rfl, hb2⟩
      have HB2 := Kp.mk (HBK.out.trans (hb2.mono hszk))
      have HO2 := Kp.mk (own_stT HOK.out hb2)
      have hsz2 : w.heap.size ≤ w2.heap.size := HB2.out.size
      clear hb2
      generalize lowB x = z at *
      go_wp2_with (first
        | (at_builtin; refine app_any rfl _ _ _ _ rfl Try.underlying61 _ _ _ Try.infoSH rfl (by omega) w.heap.size _ _ _ rfl HO2.out #[.string z] rfl (fun u hu => by simp at hu; subst hu; rfl) _ rfl rfl hlen hmx hsz2 ?_; intro g' cap' w' k1 k2 k3; have K1 := Kp.mk k1; have K2 := Kp.mk (show (w2.alloc (.cells #[.string z] 9)).grownBy w' (Value.slice a1 k c1).ownBlock from k2); clear k1 k2 k3)
        | fail)
      go_roundw
      case rel =>
        refine ⟨k + 1, _, _, by omega, by go_num, rfl, ?_, ?_⟩
        · rw [HKT.out, List.flatMap_append]
          exact K1.out
        · exact (HB2.out.alloc hsz2 _).grown K2.out (by simp; omega) (fun j hj => (HO2.out.lt j hj).1)
      case measure => simp [intOf]; omega
    · have hkn : k = l.length := by omega
      subst hkn
      have HR := Kp.mk (show RdS wr (.slice a1 l.length c1) (keysT l) by
        have h := HOK.out
        rw [List.take_length] at h
        exact RdL.of_own (f := strC) (sz := 1) strC_len (by rw [keysT_len]; exact h))
      have HC := Kp.mk (rcount_any _ (keysT l) wr HR.out (fun s hs => size_maxL (by have := keysT_sz HZ.out s hs; omega)) (by rw [keysT_len]; exact HL.out))
      go_wp2_with fail
      refine HC.out.mono ?_
      rintro e w2 ⟨u, rfl, ho2, hb2⟩
      have HO2 := Kp.mk ho2
      have HB2 := Kp.mk hb2
      clear ho2 hb2
      go_wp2_with fail
      go_ret
      exact ⟨u, rfl, own_upT1 HO2.out hszk, HBK.out.trans (HB2.out.mono hszk)⟩
theorem rdm_cells {w : World} {a : Option Addr} {c n : Nat} {l : List Msg} (h : RdM w (.slice a n c) l) (h0 : 0 < l.length) : ∃ b o, a = some ⟨b, o, none⟩ ∧ b < w.heap.size ∧ ∀ (j : Nat) (h : j < l.length) (i : Nat) (u : Value), (msgC l[j])[i]? = some u → w.cell? ⟨b, o + j * 11 + i, none⟩ = some u := by
  obtain ⟨a', c', h1, h2, h3, h4⟩ := h
  cases h1
  obtain ⟨b, o, g1, g2, g3⟩ := h4 h0
  exact ⟨b, o, g1, g2, fun j hj i u hu => by
    have hi : i < 11 := by rw [← msgC_len l[j]]; exact (List.getElem?_eq_some_iff.1 hu).1
    rw [g3 j hj i hi]; exact hu⟩
set_option maxRecDepth 100000 in
set_option maxHeartbeats 2000000 in
theorem rtheads_any (v : Value) (meth : Bool) (l : List Msg) (w : World) (hv : RdM w v l) (hz : ∀ x ∈ l, MsgSm x) (hl : l.length ≤ 1000) :
    Calls Try.prog 14 #[v, .bool meth] w (RetRd (keysM meth l) w) := by
  have HV := Kp.mk hv
  have HZ := Kp.mk hz
  have HL := Kp.mk hl
  obtain ⟨a, c, rfl, hc1, hc2, -⟩ := hv
  unfold RetRd
  have HO := Kp.mk (show (w.alloc (.cells #[] 9)).ownsRow w.heap.size 9 1 (.slice (some ⟨w.heap.size, 0, none⟩) 0 0) 0 [] from own_empty _ _ rfl)
  have HB := Kp.mk ((Below.refl w.heap.size w).alloc (Nat.le_refl _) (.cells #[] 9))
  clear hz hc1 hc2
  go_enter Try.func14, Try.ntmps14
  go_wp2_with fail
  go_loopw [5, 6] (fun vo vi wr => ∃ (k c1 : Nat) (a1 : Option Addr), k ≤ l.length ∧ vi = .int .i64 k ∧ vo = .slice a1 (keysM meth (l.take k)).length c1 ∧ wr.ownsRow w.heap.size 9 1 vo (keysM meth (l.take k)).length ((keysM meth (l.take k)).flatMap strC) ∧ Below w.heap.size w wr) (fun _ vi _ => l.length - (intOf vi).toNat)
  case atStart => exact ⟨0, 0, _, Nat.zero_le _, rfl, rfl, HO.out, HB.out⟩
  case round =>
    obtain ⟨k, c1, a1, hk, rfl, rfl, ho, hb⟩ := hrel
    have HOK := Kp.mk ho
    have HBK := Kp.mk hb
    have hszk := hb.size
    have hkl := keysM_len meth (l.take k)
    rw [List.length_take] at hkl
    clear ho hb
    by_cases hlt : k < l.length
    · obtain ⟨b, o, rfl, hbl, d⟩ := rdm_cells (HV.out.below HBK.out) (by omega)
      have d0 : wr.cell? ⟨b, o + k * 11, none⟩ = _ := d k hlt 0 _ rfl
      have d1 := d k hlt 1 _ rfl
      have d2 := d k hlt 2 _ rfl
      have d3 := d k hlt 3 _ rfl
      have d4 := d k hlt 4 _ rfl
      have d5 := d k hlt 5 _ rfl
      have HS := Kp.mk (HZ.out _ (List.getElem_mem hlt))
      have HKT := Kp.mk (keysM_take (meth := meth) hlt)
      clear d
      generalize l[k] = f at *
      obtain ⟨m, t, mi, st, r, fa, fn, fc, fk, ln, bd, sa, sn, sc, ta, tn, tc⟩ := f
      dsimp only at d0 d1 d2 d3 d4 d5
      unfold keyM at HKT
      dsimp only [MsgSm] at HS HKT
      generalize hLK : keysM meth (l.take k) = LK at *
      have hlen : (LK.length + 1) * 16 ≤ 140737488355328 := by omega
      have hmx : LK.length + 1 ≤ maxLen := by unfold maxLen; omega
      have q1 : (k : Int) < (l.length : Int) := by omega
      have q0 : (0 : Int) ≤ (k : Int) := by omega
      have HBA := Kp.mk (HBK.out.alloc hszk (.cells #[.string m, .string t, .int .i64 mi, .int .i64 st, .string r, .slice fa fn fc] 27))
      have HOA := Kp.mk (HOK.out.alloc (.cells #[.string m, .string t, .int .i64 mi, .int .i64 st, .string r, .slice fa fn fc] 27))
      have hsa : w.heap.size ≤ (wr.alloc (.cells #[.string m, .string t, .int .i64 mi, .int .i64 st, .string r, .slice fa fn fc] 27)).heap.size := HBA.out.size
      by_cases hm : m.size = 0
      · have he : m = ⟨#[]⟩ := (ByteArray.size_eq_zero_iff.1 hm).trans rfl
        subst he
        cases meth
        · have HK2 := Kp.mk (HKT.out.trans (by rw [if_neg (by simp), if_pos hm]))
          clear hm HKT
          have hq := quo_in HS.out.2.1 HS.out.2.2
          go_wp2_with fail
          have HTX := Kp.mk (rtext_any (st.tdiv 100) (wr.alloc (.cells #[.string ⟨#[]⟩, .string t, .int .i64 mi, .int .i64 st, .string r, .slice fa fn fc] 27)) hq.1 hq.2)
          refine HTX.out.mono ?_
          rintro e w2 ⟨rfl, hb2⟩
          have HB2 := Kp.mk (HBA.out.trans (hb2.mono hsa))
          have HO2 := Kp.mk (own_stT HOA.out hb2)
          have hsz2 : w.heap.size ≤ w2.heap.size := HB2.out.size
          have hzt : (ofL (textL (st.tdiv 100))).size ≤ 21 := by rw [ofL_size]; exact textL_len _
          clear hb2 HTX
          generalize ofL (textL (st.tdiv 100)) = z at *
          have hz1 : (z ++ (⟨#[120, 120]⟩ : ByteArray)).size ≤ 23 := by rw [ByteArray.size_append]; have : (⟨#[120, 120]⟩ : ByteArray).size = 2 := rfl; omega
          go_wp2_with (first
            | (at_builtin; refine app_any rfl _ _ _ _ rfl Try.underlying61 _ _ _ Try.infoSH rfl (by omega) w.heap.size _ _ _ rfl HO2.out #[.string (z ++ (⟨#[120, 120]⟩ : ByteArray))] rfl (fun u hu => by simp at hu; subst hu; rfl) _ rfl rfl hlen hmx hsz2 ?_; intro g' cap' w' k1 k2 k3; have K1 := Kp.mk k1; have K2 := Kp.mk (show (w2.alloc (.cells #[.string (z ++ (⟨#[120, 120]⟩ : ByteArray))] 9)).grownBy w' (Value.slice a1 LK.length c1).ownBlock from k2); clear k1 k2 k3)
            | fail)
          go_roundw
          case rel =>
            refine ⟨k + 1, _, _, by omega, by go_num, by rw [HK2.out, List.length_append]; rfl, ?_, ?_⟩
            · rw [HK2.out, List.length_append, List.flatMap_append]
              exact K1.out
            · exact (HB2.out.alloc hsz2 _).grown K2.out (by simp; omega) (fun j hj => (HO2.out.lt j hj).1)
          case measure => simp [intOf]; omega
        · have HK2 := Kp.mk (HKT.out.trans (by rw [if_pos rfl, if_pos hm, List.append_nil]))
          clear hm HKT
          go_wp2_with fail
          go_roundw
          case rel => exact ⟨k + 1, c1, a1, by omega, by go_num, by rw [HK2.out], by rw [HK2.out]; exact HOA.out, HBA.out⟩
          case measure => simp [intOf]; omega
      · have hx2 : ¬ m.toList = [] := fun e => hm (by rw [ba_size', ← ByteArray.toList_eq, e]; rfl)
        have hx3 : m.toList.isEmpty = false := by rw [List.isEmpty_eq_false_iff]; exact hx2
        cases meth
        · have HK2 := Kp.mk (HKT.out.trans (by rw [if_neg (by simp), if_neg hm, List.append_nil]))
          clear hm HKT
          go_wp2_with fail
          go_roundw
          case rel => exact ⟨k + 1, c1, a1, by omega, by go_num, by rw [HK2.out], by rw [HK2.out]; exact HOA.out, HBA.out⟩
          case measure => simp [intOf]; omega
        · have HK2 := Kp.mk (HKT.out.trans (by rw [if_pos rfl, if_neg hm]))
          clear hm HKT
          go_wp2_with (first
            | (at_builtin; refine app_any rfl _ _ _ _ rfl Try.underlying61 _ _ _ Try.infoSH rfl (by omega) w.heap.size _ _ _ rfl HOA.out #[.string m] rfl (fun u hu => by simp at hu; subst hu; rfl) (wr.heap.size + 1) (by simp) rfl hlen hmx hsa ?_; intro g' cap' w' k1 k2 k3; have K1 := Kp.mk k1; have K2 := Kp.mk (show ((wr.alloc (.cells #[.string m, .string t, .int .i64 mi, .int .i64 st, .string r, .slice fa fn fc] 27)).alloc (.cells #[.string m] 9)).grownBy w' (Value.slice a1 LK.length c1).ownBlock from k2); clear k1 k2 k3)
            | fail)
          go_roundw
          case rel =>
            refine ⟨k + 1, _, _, by omega, by go_num, by rw [HK2.out, List.length_append]; rfl, ?_, ?_⟩
            · rw [HK2.out, List.length_append, List.flatMap_append]
              exact K1.out
            · exact (HBA.out.alloc hsa _).grown K2.out (by simp; omega) (fun j hj => (HOA.out.lt j hj).1)
          case measure => simp [intOf]; omega
    · have hkn : k = l.length := by omega
      subst hkn
      have hLL : keysM meth (l.take l.length) = keysM meth l := by rw [List.take_length]
      generalize keysM meth (l.take l.length) = LK at *
      subst hLL
      have HR := Kp.mk (show RdS wr (.slice a1 (keysM meth l).length c1) (keysM meth l) from RdL.of_own (f := strC) (sz := 1) strC_len HOK.out)
      have HC := Kp.mk (rcount_any _ (keysM meth l) wr HR.out (fun s hs => size_maxL (by have := keysM_sz HZ.out s hs; omega)) (by have := keysM_len meth l; have := HL.out; omega))
      go_wp2_with fail
      refine HC.out.mono ?_
      rintro e w2 ⟨u, rfl, ho2, hb2⟩
      have HO2 := Kp.mk ho2
      have HB2 := Kp.mk hb2
      clear ho2 hb2
      go_wp2_with fail
      go_ret
      exact ⟨u, rfl, own_upT1 HO2.out hszk, HBK.out.trans (HB2.out.mono hszk)⟩
end Go.Proofs.Ytocnecbhpofdgaa
