/- How lists of lines differ (layer 51): the program's Lines. -/
import Derived.Test.YtnpolkpofaamlaaDib
import Derived.Deep.RegionHeld3
namespace Go.Proofs.Ytnpolkpofaamlaa
open Go.RowKit
set_option linter.unusedVariables false
set_option linter.unusedSimpArgs false

def drC (r : Dr) : List Value := [.int .i64 r.1, .string r.2]
def drL (l : List Dr) : List Value := l.flatMap drC
theorem drL_snoc (l : List Dr) (r : Dr) : drL (l ++ [r]) = drL l ++ drC r := by simp [drL]
theorem drL_len : ∀ l : List Dr, (drL l).length = l.length * 2
  | [] => rfl
  | p :: S => by
    have := drL_len S
    unfold drL at this ⊢
    rw [List.flatMap_cons, List.length_append, this, List.length_cons]
    simp [drC]
    omega
abbrev RdDr (w : World) (v : Value) (l : List Dr) : Prop := RdL drC 2 w v l
theorem rddr_own {w : World} {B : Nat} {e : TypeId} {v : Value} {l : List Dr} (h : w.ownsRow B e 2 v l.length (drL l)) : RdDr w v l := RdL.of_own (f := drC) (fun _ => rfl) h
theorem rddr_form {w : World} {v : Value} {l : List Dr} (h : RdDr w v l) : ∃ a c, v = .slice a l.length c := by
  obtain ⟨a, c, h1, _⟩ := h
  exact ⟨a, c, h1⟩
theorem rddr_cells {w : World} {a : Option Addr} {c n : Nat} {l : List Dr} (h : RdDr w (.slice a n c) l) (h0 : 0 < l.length) : ∃ b o, a = some ⟨b, o, none⟩ ∧ b < w.heap.size ∧ ∀ (j : Nat) (h : j < l.length), w.cell? ⟨b, o + j * 2, none⟩ = some (.int .i64 l[j].1) ∧ w.cell? ⟨b, o + j * 2 + 1, none⟩ = some (.string l[j].2) := by
  obtain ⟨a', c', h1, h2, h3, h4⟩ := h
  cases h1
  obtain ⟨b, o, g1, g2, g3⟩ := h4 h0
  exact ⟨b, o, g1, g2, fun j hj => ⟨by have := g3 j hj 0 (by omega); simpa [drC] using this, by have := g3 j hj 1 (by omega); simpa [drC] using this⟩⟩
theorem Try.infoDr : (Try.prog.info? 99).map (fun i => (i.zero, i.size, i.bytes)) = some (some (.agg #[.int .i64 0, .string ByteArray.empty]), 2, 24) := by kernel_rfl
theorem own_kd {w w' : World} {B : Nat} {e : TypeId} {sz n : Nat} {v : Value} {xs : List Value} (h : w.ownsRow B e sz v n xs) (hk : ∀ g, B ≤ g → g < w.heap.size → w'.heap[g]? = w.heap[g]?) : w'.ownsRow B e sz v n xs := by
  refine ⟨h.1, ?_⟩
  rcases h.2 with h1 | ⟨g, cap, cur, h1, h2, h3, rest⟩
  · exact .inl h1
  · refine .inr ⟨g, cap, cur, h1, h2, (hk g ?_ (blk_lt h3)).trans h3, rest⟩
    subst h1
    exact (h.lt g rfl).1
/-- A boxed list that grows. -/
structure AdB (bx : Nat) (l : List Dr) (w : World) : Prop where
  h : ∃ v, w.heap[bx]? = some (.cells #[v] 91 (0, 0)) ∧ w.ownsRow (bx + 1) 99 2 v l.length (drL l)
theorem AdB.below {bx : Nat} {l : List Dr} {w w' : World} (h : AdB bx l w) (hb : Below w.heap.size w w') : AdB bx l w' := by
  obtain ⟨v, h1, h2⟩ := h.h
  exact ⟨v, (hb.block _ (blk_lt h1)).trans h1, own_kd h2 fun g _ hg => hb.block g hg⟩
theorem grown_atD {wr w' : World} {o : Obj} {row : Option Nat} {k : Nat} {ob : Obj} (hg : (wr.alloc o).grownBy w' row) (hk : wr.heap[k]? = some ob) (h : row ≠ some k) : w'.heap[k]? = some ob :=
  (hg.block k (by have := blk_lt hk; simp; omega) (fun e => h e.symm)).trans (blk_alloc hk)
def AddD (bx : Nat) (l : List Dr) (r : Dr) (w : World) (e : Ending) (w' : World) : Prop := (∃ v, e = .returned v) ∧ AdB bx (l ++ [r]) w' ∧ Below bx w w'
set_option maxRecDepth 100000 in
set_option maxHeartbeats 1000000 in
theorem dadd_any (bx : Nat) (l : List Dr) (s : Int) (t : ByteArray) (w : World) (h : AdB bx l w) (hl : l.length ≤ 10000) :
    Calls Try.prog 93 #[.int .i64 s, .string t, .pointer (some ⟨bx, 0, none⟩)] w (AddD bx l (s, t) w) := by
  obtain ⟨v, hb, ho⟩ := h.h
  obtain ⟨av, cv, rfl⟩ := own_lenH ho
  have HB := Kp.mk hb
  have HO := Kp.mk ho
  have c0 := blk_cell (i := 0) hb rfl
  have f0 := blk_free (i := 0) hb
  have hbl := blk_lt hb
  have hlen0 : (l.length + 1) * 24 ≤ 140737488355328 := by omega
  have hmx0 : l.length + 1 ≤ maxLen := by unfold maxLen; omega
  have HL := Kp.mk (show (l ++ [(s, t)]).length = l.length + 1 by simp)
  have HD := Kp.mk (drL_snoc l (s, t))
  clear h hb ho
  go_enter Try.func93, Try.ntmps93
  go_wp2_with (at_builtin; refine app_any rfl _ _ _ _ rfl Try.underlying91 _ _ _ Try.infoDr rfl (by omega) (bx + 1) _ _ _ rfl HO.out #[.int .i64 s, .string t] rfl (fun u hu => by simp at hu; rcases hu with rfl | rfl <;> rfl) _ rfl rfl hlen0 hmx0 hbl ?_; intro g' cap' w' h1 h2 h3; have G1 := Kp.mk h1; have G2 := Kp.mk h2; have hne : (Value.slice av l.length cv).ownBlock ≠ some bx := (fun e => by have := (HO.out.lt bx e).1; omega); have hx := grown_atD h2 HB.out hne; have HX := Kp.mk hx; have c1 := blk_cell (i := 0) hx rfl; have f1 := blk_free (i := 0) hx; clear h1 h2 h3 hne hx c0 f0)
  first | go_end0 | refine bodyPost_ret (results_none rfl _ _ _) rfl ?_
  have G3 := grown_bel HO.out hbl G2.out
  refine ⟨⟨_, rfl⟩, ⟨_, blk_set HX.out _, ?_⟩, (G3.mono (Nat.le_succ _)).setCell (Nat.le_refl _) _⟩
  rw [HL.out, HD.out]
  exact own_kd G1.out fun g hg hlt => Below.heap_setCell _ _ _ _ (show g ≠ bx by omega)
/-- What holds at each turn of Lines. -/
structure DlI (a b : Ln) (ft rt bx : Nat) (V : Nat → Int) (i j : Nat) (l : List Dr) (w wr : World) : Prop where
  t : LT a b ft rt V wr
  d : AdB bx l wr
  e : l ++ dfL (a.drop i) (b.drop j) = dfL a b
  l : l.length ≤ i + j
  i : i ≤ a.length
  j : j ≤ b.length
  bl : Below w.heap.size w wr
  f : ft < bx ∧ rt < bx ∧ w.heap.size ≤ bx
theorem LT.below {a b : Ln} {ft rt B : Nat} {V : Nat → Int} {w w' : World} (h : LT a b ft rt V w) (hb : Below B w w') (h1 : ft < B) (h2 : rt < B) : LT a b ft rt V w' := ⟨h.r.below hb h2, h.f.below hb h1, h.v⟩
theorem DlI.next {a b : Ln} {ft rt bx : Nat} {V : Nat → Int} {i j i' j' : Nat} {l : List Dr} {r : Dr} {w wr w' : World} (h : DlI a b ft rt bx V i j l w wr) (hd : AdB bx (l ++ [r]) w') (hb : Below bx wr w') (he : dfL (a.drop i) (b.drop j) = r :: dfL (a.drop i') (b.drop j')) (hl : i + j + 1 ≤ i' + j') (hi : i' ≤ a.length) (hj : j' ≤ b.length) : DlI a b ft rt bx V i' j' (l ++ [r]) w w' :=
  ⟨h.t.below hb h.f.1 h.f.2.1, hd, by rw [List.append_assoc, List.singleton_append, ← he]; exact h.e, by have := h.l; simp; omega, hi, hj, h.bl.trans (hb.mono h.f.2.2), h.f⟩
theorem DlI.drewN {a b : Ln} {ft rt bx : Nat} {V : Nat → Int} {i j : Nat} {l : List Dr} {w wr : World} (h : DlI a b ft rt bx V i j l w wr) (q : Nat) : DlI a b ft rt bx V i j l w (wr.drewN q) :=
  ⟨⟨h.t.r.kept rfl, h.t.f.kept rfl, h.t.v⟩, h.d.below (gdrewN wr q), h.e, h.l, h.i, h.j, h.bl.trans ((gdrewN wr q).mono h.bl.size), h.f⟩
theorem own_upD {w : World} {B B' : Nat} {e : TypeId} {sz n : Nat} {v : Value} {xs : List Value} (h : w.ownsRow B e sz v n xs) (hB : B' ≤ B) : w.ownsRow B' e sz v n xs := by
  refine ⟨h.1, ?_⟩
  rcases h.2 with h1 | ⟨g, cap, cur, h1, h2, rest⟩
  · exact .inl h1
  · exact .inr ⟨g, cap, cur, h1, Nat.le_trans hB h2, rest⟩
def RetDr (l : List Dr) (w : World) (e : Ending) (w' : World) : Prop := ∃ v, e = .returned v ∧ w'.ownsRow w.heap.size 99 2 v l.length (drL l) ∧ Below w.heap.size w w'
set_option maxRecDepth 100000 in
set_option maxHeartbeats 1000000 in
theorem dlines_any (va vb : Value) (a b : Ln) (w : World) (ha : RdS w va a) (hb : RdS w vb b) (hla : a.length ≤ 100) (hlb : b.length ≤ 100) :
    Calls Try.prog 58 #[va, vb] w (RetDr (dfL a b) w) := by
  have HLE := Kp.mk (dlen_any va vb a b w ha hb hla hlb)
  have HA := Kp.mk ha
  have HB := Kp.mk hb
  obtain ⟨aa, ca, rfl, _, _, -⟩ := ha
  obtain ⟨ab, cb, rfl, _, _, -⟩ := hb
  go_enter Try.func58, Try.ntmps58
  go_wp2_with fail
  refine HLE.out.mono ?_
  rintro e w1 ⟨ft, rt, V, rfl, ht, hb1, hft, hrt⟩
  have hbx := heap_alloc_new w1 (.cells #[.slice none 0 0] 91)
  have hA1 := (Below.refl w1.heap.size w1).alloc (Nat.le_refl _) (.cells #[.slice none 0 0] 91)
  have hsz : (w1.alloc (.cells #[.slice none 0 0] 91)).heap.size = w1.heap.size + 1 := World.size_alloc _ _
  have HI0 := Kp.mk (show DlI a b ft rt w1.heap.size V 0 0 [] w (w1.alloc (.cells #[.slice none 0 0] 91)) from
    ⟨ht.below hA1 ht.f.lt ht.r.lt, ⟨_, hbx, World.ownsRow_nil _ _ _ _⟩, rfl, Nat.le_refl _, Nat.zero_le _, Nat.zero_le _, hb1.trans (hA1.mono hb1.size), ht.f.lt, ht.r.lt, hb1.size⟩)
  clear ht hb1 hft hrt hbx hA1 hsz HLE
  generalize hn : a.length = n at *
  generalize hm : b.length = m at *
  have HN := Kp.mk hn
  have HM := Kp.mk hm
  clear hn hm
  go_wp2_with fail
  go_loopw [7, 8] (fun iv jv wr => ∃ (i j : Nat) (l : List Dr), iv = .int .i64 i ∧ jv = .int .i64 j ∧ DlI a b ft rt w1.heap.size V i j l w wr) (fun iv jv _ => n + m - ((intOf iv).toNat + (intOf jv).toNat))
  case atStart => exact ⟨0, 0, [], rfl, rfl, HI0.out⟩
  case round =>
    obtain ⟨i, j, l, rfl, rfl, hI⟩ := hrel
    have HI := Kp.mk hI
    have hin : i ≤ n := by have := hI.i; have := HN.out; omega
    have hjm : j ≤ m := by have := hI.j; have := HM.out; omega
    have hll : l.length ≤ 10000 := by have := hI.l; omega
    have HAT := Kp.mk (dfL_at (a := a) (b := b) (i := i) (j := j))
    have HAD := Kp.mk (fun s t w h => dadd_any w1.heap.size l s t w h hll)
    clear hI
    by_cases h1 : i < n
    · have hia : i < a.length := by have := HN.out; omega
      rw [dif_pos hia] at HAT
      obtain ⟨ga, oa, rfl, hgl, da⟩ := rds_cells (HA.out.below HI.out.bl) (by omega)
      have ca1 := da i hia
      clear da
      by_cases h2 : j < m
      · have hjb : j < b.length := by have := HM.out; omega
        rw [dif_pos hjb] at HAT
        obtain ⟨gb, ob, rfl, hgl2, db⟩ := rds_cells (HB.out.below HI.out.bl) (by omega)
        have cb1 := db j hjb
        clear db
        have q1 : (i : Int) < (n : Int) := by omega
        have q2 : (j : Int) < (m : Int) := by omega
        have r1 := HI.out.t.r.cell (k := i + 1) (by omega)
        have r0 := HI.out.t.r.cell (k := i) (by omega)
        have f10 := HI.out.t.f.cell (idx_lt (i := i + 1) (j := j) (by omega) (by omega))
        have f01 := HI.out.t.f.cell (idx_lt (i := i) (j := j + 1) (by omega) (by omega))
        unfold rowV at r1 r0
        unfold i32V at f10 f01
        rw [HI.out.t.v (i + 1) j (by omega) (by omega)] at f10
        rw [HI.out.t.v i (j + 1) (by omega) (by omega)] at f01
        rw [HM.out] at f10 f01 r1 r0
        generalize (i + 1) * (m + 1) = l1 at r1 f10
        generalize i * (m + 1) = l0 at r0 f01
        generalize lcS a b (i + 1) j = x10 at *
        generalize lcS a b i (j + 1) = x01 at *
        generalize a[i] = s at *
        generalize b[j] = u at *
        by_cases he : s = u
        · subst he
          have HE := Kp.mk (HAT.out.trans (if_pos rfl))
          have he2 : (s.toList == s.toList) = true := by simp
          clear HAT
          go_upto_region 8 with fail
          go_quiet (fail)
          go_wp2_with fail
          refine (HAD.out 0 s _ (HI.out.drewN _).d).mono ?_
          rintro e w2 ⟨⟨v9, rfl⟩, hd, hb⟩
          have HX := Kp.mk ((HI.out.drewN _).next (i' := i + 1) (j' := j + 1) hd hb HE.out (by omega) (by have := HN.out; omega) (by have := HM.out; omega))
          clear hd hb
          go_wp2_with fail
          go_roundw
          case rel => exact ⟨i + 1, j + 1, _, by go_num, by go_num, HX.out⟩
          case measure => simp [intOf] <;> omega
        · have he2 := ba_tlb he
          have HA2 := Kp.mk (HAT.out.trans (if_neg he))
          have q3 : ((j : Int) == (m : Int)) = false := by rw [beq_eq_false_iff_ne]; omega
          clear HAT
          by_cases hle : x01 ≤ x10
          · have HE := Kp.mk (HA2.out.trans (if_pos hle))
            have hli : (x01 : Int) ≤ (x10 : Int) := by omega
            clear HA2
            go_upto_region 8 with fail
            go_quiet (fail)
            go_upto_region 11 with fail
            go_quiet (fail)
            go_wp2_with fail
            refine (HAD.out 1 s _ (HI.out.drewN _).d).mono ?_
            rintro e w2 ⟨⟨v9, rfl⟩, hd, hb⟩
            have HX := Kp.mk ((HI.out.drewN _).next (i' := i + 1) (j' := j) hd hb HE.out (by omega) (by have := HN.out; omega) (by have := HM.out; omega))
            clear hd hb
            go_wp2_with fail
            go_roundw
            case rel => exact ⟨i + 1, j, _, by go_num, by go_num, HX.out⟩
            case measure => simp [intOf] <;> omega
          · have HE := Kp.mk (HA2.out.trans (if_neg hle))
            have hli : ¬ (x01 : Int) ≤ (x10 : Int) := by omega
            clear HA2
            go_upto_region 8 with fail
            go_quiet (fail)
            go_upto_region 11 with fail
            go_quiet (fail)
            go_wp2_with fail
            refine (HAD.out 2 u _ (HI.out.drewN _).d).mono ?_
            rintro e w2 ⟨⟨v9, rfl⟩, hd, hb⟩
            have HX := Kp.mk ((HI.out.drewN _).next (i' := i) (j' := j + 1) hd hb HE.out (by omega) (by have := HN.out; omega) (by have := HM.out; omega))
            clear hd hb
            go_wp2_with fail
            go_roundw
            case rel => exact ⟨i, j + 1, _, by go_num, by go_num, HX.out⟩
            case measure => simp [intOf] <;> omega
      · have hjb : ¬ j < b.length := by have := HM.out; omega
        rw [dif_neg hjb] at HAT
        have hjm2 : j = m := by omega
        subst hjm2
        have q1 : (i : Int) < (n : Int) := by omega
        have q3 : ((j : Int) == (j : Int)) = true := by simp
        generalize a[i] = s at *
        go_upto_region 8 with fail
        go_quiet (fail)
        go_upto_region 11 with fail
        go_quiet (fail)
        go_wp2_with fail
        refine (HAD.out 1 s _ (HI.out.drewN _).d).mono ?_
        rintro e w2 ⟨⟨v9, rfl⟩, hd, hb⟩
        have HX := Kp.mk ((HI.out.drewN _).next (i' := i + 1) (j' := j) hd hb HAT.out (by omega) (by have := HN.out; omega) (by have := HM.out; omega))
        clear hd hb
        go_wp2_with fail
        go_roundw
        case rel => exact ⟨i + 1, j, _, by go_num, by go_num, HX.out⟩
        case measure => simp [intOf] <;> omega
    · have hia : ¬ i < a.length := by have := HN.out; omega
      rw [dif_neg hia] at HAT
      have hin2 : i = n := by omega
      subst hin2
      by_cases h2 : j < m
      · have hjb : j < b.length := by have := HM.out; omega
        rw [dif_pos hjb] at HAT
        obtain ⟨gb, ob, rfl, hgl2, db⟩ := rds_cells (HB.out.below HI.out.bl) (by omega)
        have cb1 := db j hjb
        clear db
        have q2 : (j : Int) < (m : Int) := by omega
        have q3 : ((j : Int) == (m : Int)) = false := by rw [beq_eq_false_iff_ne]; omega
        generalize b[j] = u at *
        go_upto_region 8 with fail
        go_quiet (fail)
        go_upto_region 11 with fail
        go_quiet (fail)
        go_wp2_with fail
        refine (HAD.out 2 u _ (HI.out.drewN _).d).mono ?_
        rintro e w2 ⟨⟨v9, rfl⟩, hd, hb⟩
        have HX := Kp.mk ((HI.out.drewN _).next (i' := i) (j' := j + 1) hd hb HAT.out (by omega) (by have := HN.out; omega) (by have := HM.out; omega))
        clear hd hb
        go_wp2_with fail
        go_roundw
        case rel => exact ⟨i, j + 1, _, by go_num, by go_num, HX.out⟩
        case measure => simp [intOf] <;> omega
      · have hjb : ¬ j < b.length := by have := HM.out; omega
        rw [dif_neg hjb] at HAT
        have hjm2 : j = m := by omega
        subst hjm2
        obtain ⟨v, hv, hvo⟩ := HI.out.d.h
        have cv := blk_cell (i := 0) hv rfl
        have HVO := Kp.mk hvo
        obtain ⟨av, acv, rfl⟩ := own_lenH hvo
        clear hv hvo
        go_wp2_with fail
        go_ret
        have hl : l = dfL a b := by
          have := HI.out.e
          rw [HAT.out, List.append_nil] at this
          exact this
        refine ⟨_, rfl, ?_, HI.out.bl⟩
        rw [← hl]
        exact own_upD HVO.out (by have := HI.out.f.2.2; omega)
end Go.Proofs.Ytnpolkpofaamlaa
