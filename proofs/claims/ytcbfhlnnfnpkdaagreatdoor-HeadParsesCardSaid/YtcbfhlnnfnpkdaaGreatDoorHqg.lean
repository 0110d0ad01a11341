/- Heads (layer 22): New, Head, the document's example (bin/mkhqg.py). -/
import Derived.Test.YtcbfhlnnfnpkdaaGreatDoorHqf
import Derived.Test.YtcbfhlnnfnpkdaaGreatDoorHqd
import Derived.Test.YtcbfhlnnfnpkdaaGreatDoorHdi
namespace Go.Proofs.YtcbfhlnnfnpkdaaGreatDoor
open Go.RowKit
set_option linter.unusedVariables false
set_option linter.unusedSimpArgs false

def RetFH (l : List Fld) (w : World) (e : Ending) (w' : World) : Prop := ∃ v, e = .returned v ∧ w'.ownsRow w.heap.size 67 2 v l.length (fvH l) ∧ Below w.heap.size w w'
set_option maxRecDepth 100000 in
set_option maxHeartbeats 1000000 in
theorem cloneH_any (v : Value) (l : List Fld) (w : World) (hv : RdF w v l) (hl : l.length ≤ 10000) :
    Calls Tryz.prog 55 #[v] w (RetFH l w) := by
  have hBA := (Below.refl w.heap.size w).alloc (Nat.le_refl _) (.cells #[] 67)
  have HVA := Kp.mk (hv.below hBA)
  have HO := Kp.mk (World.ownsRow_lit (base := w.heap.size) (e := 67) (size := 2) w #[] 0 (Nat.le_refl _) (by unfold maxLen; omega) rfl)
  have HBA := Kp.mk hBA
  have hszA : w.heap.size ≤ (w.alloc (.cells #[] 67)).heap.size := hBA.size
  have hlen0 : (0 + l.length) * 32 ≤ 140737488355328 := by omega
  have hmx0 : 0 + l.length ≤ maxLen := by unfold maxLen; omega
  obtain ⟨a, cap, rfl, -, -, h4⟩ := hv
  clear hBA
  cases a with
  | none =>
    have h0 : l = [] := by
      rcases Nat.eq_zero_or_pos l.length with h0 | h0
      · exact List.eq_nil_of_length_eq_zero h0
      · obtain ⟨b, off, hb, _⟩ := h4 h0
        cases hb
    subst h0
    clear h4
    have hE : ∀ w : World, (binOp .eql 27 (.slice none 0 cap) (.slice none 0 0)).run Tryz.prog w = .ok (.bool true) w := fun w => by kernel_rfl
    go_enter Tryz.func55, Tryz.ntmps55
    go_wp2_with fail
    go_ret
    exact ⟨_, rfl, World.ownsRow_nil _ _ _ _, Below.refl _ _⟩
  | some ad =>
    clear h4
    have hE : ∀ w : World, (binOp .eql 27 (.slice (some ad) l.length cap) (.slice none 0 0)).run Tryz.prog w = .ok (.bool false) w := fun w => by kernel_rfl
    go_enter Tryz.func55, Tryz.ntmps55
    go_wp2_with (at_builtin; refine app_flds rfl _ _ _ _ rfl Tryz.underlying27 _ Tryz.infoFH rfl w.heap.size _ 0 _ rfl HO.out _ rfl l HVA.out hlen0 hmx0 hszA ?_; intro v1 w1 h1 h2; rw [Nat.zero_add] at h1; have HB1 := Kp.mk (HBA.out.grown h2 hszA fun k hk => (HO.out.lt k hk).1); have HO1 := Kp.mk h1; clear h1 h2)
    go_ret
    exact ⟨_, rfl, HO1.out, HB1.out⟩
def lmV (l0 l1 l2 l3 l4 : Int) : Value := .agg #[.int .i64 l0, .int .i64 l1, .int .i64 l2, .int .i64 l3, .int .i64 l4]
set_option maxRecDepth 100000 in
set_option maxHeartbeats 1000000 in
theorem pnew_any (kind : Int) (m : Nat) (l1 l2 l3 l4 : Int) (w : World) (hk : kind = 1 ∨ kind = 2) (hm : m ≤ 65536) :
    Calls Tryz.prog 18 #[.int .i64 kind, .agg #[.int .i64 m, .int .i64 l1, .int .i64 l2, .int .i64 l3, .int .i64 l4]] w fun e w' => ∃ b bl, e = .returned (.pointer (some ⟨b, 0, none⟩)) ∧ PR (fun k => k = b ∨ k = bl) b bl m kind m l1 l2 l3 l4 ps0 w' ∧ w.heap.size ≤ b ∧ w.heap.size ≤ bl ∧ Below w.heap.size w w' := by
  have e1 : (w.alloc (.cells #[.int .i64 m, .int .i64 l1, .int .i64 l2, .int .i64 l3, .int .i64 l4] 23)).heap.size = w.heap.size + 1 := World.size_alloc _ _
  have HB0 := Kp.mk ((Below.refl w.heap.size w).alloc (Nat.le_refl _) (.cells #[.int .i64 m, .int .i64 l1, .int .i64 l2, .int .i64 l3, .int .i64 l4] 23))
  have HX0 := Kp.mk (heap_alloc_new w (.cells #[.int .i64 m, .int .i64 l1, .int .i64 l2, .int .i64 l3, .int .i64 l4] 23))
  rcases hk with rfl | rfl
  all_goals
    go_enter Tryz.func18, Tryz.ntmps18
    go_wp2_with fail
    refine (new_yes m _ hm).mono ?_
    rintro e w1 ⟨rfl, hl, hz, hb⟩
    have hx := (hb.block _ (blk_lt HX0.out)).trans HX0.out
    have c0 := blk_cell (i := 0) hx rfl
    have c1 := blk_cell (i := 1) hx rfl
    have c2 := blk_cell (i := 2) hx rfl
    have c3 := blk_cell (i := 3) hx rfl
    have c4 := blk_cell (i := 4) hx rfl
    have HL := Kp.mk (show LinAt (w.heap.size + 1) m ls0 (.slice none 0 0) w1 from e1 ▸ hl)
    have HB1 := Kp.mk (HB0.out.trans (hb.mono (by rw [e1]; omega)))
    have hs1 := HB1.out.size
    clear hl hz hb hx
    go_wp2_with fail
    go_ret
    refine ⟨_, _, rfl, ⟨⟨.slice none 0 0, .slice none 0 0, .slice none 0 0, heap_alloc_new w1 _, HL.out.below ((Below.refl _ _).alloc (Nat.le_refl _) _), World.ownsRow_nil _ _ _ _, World.ownsRow_nil _ _ _ _, fun k h => by simp [Value.ownBlock] at h, fun k h => by simp [Value.ownBlock] at h, fun k h => by simp [Value.ownBlock] at h⟩, .inl rfl, .inr rfl⟩, hs1, by omega, HB1.out.alloc hs1 _⟩
theorem pnew_no (kind : Int) (m : Nat) (l1 l2 l3 l4 : Int) (w : World) (hk : kind ≠ 1 ∧ kind ≠ 2) (hm : m ≤ 65536) :
    Calls Tryz.prog 18 #[.int .i64 kind, .agg #[.int .i64 m, .int .i64 l1, .int .i64 l2, .int .i64 l3, .int .i64 l4]] w fun e w' => e = .returned (.pointer none) ∧ Below w.heap.size w w' := by
  have e1 : (w.alloc (.cells #[.int .i64 m, .int .i64 l1, .int .i64 l2, .int .i64 l3, .int .i64 l4] 23)).heap.size = w.heap.size + 1 := World.size_alloc _ _
  have HB0 := Kp.mk ((Below.refl w.heap.size w).alloc (Nat.le_refl _) (.cells #[.int .i64 m, .int .i64 l1, .int .i64 l2, .int .i64 l3, .int .i64 l4] 23))
  have t1 : (kind != 1) = true := by rw [bne_iff_ne]; exact hk.1
  have t2 : (kind != 2) = true := by rw [bne_iff_ne]; exact hk.2
  clear hk
  go_enter Tryz.func18, Tryz.ntmps18
  go_wp2_with fail
  refine (new_yes m _ hm).mono ?_
  rintro e w1 ⟨rfl, hl, hz, hb⟩
  have HB1 := Kp.mk (HB0.out.trans (hb.mono (by rw [e1]; omega)))
  clear hl hz hb
  go_wp2_with fail
  go_ret
  exact ⟨rfl, HB1.out⟩
set_option maxRecDepth 100000 in
set_option maxHeartbeats 2000000 in
theorem phead_any (A : Nat → Prop) (b bl most : Nat) (kind l0 l1 l2 l3 l4 : Int) (P : PSt) (w : World) (h : PR A b bl most kind l0 l1 l2 l3 l4 P w) (he : P.ended = true) (her : P.err = 0) (hl : P.hd.f.length ≤ 10000) :
    Calls Tryz.prog 22 #[.pointer (some ⟨b, 0, none⟩)] w fun e w' => ∃ u, e = .returned (.agg #[.string P.hd.m, .string P.hd.t, .int .i64 P.hd.mi, .int .i64 P.hd.st, .string P.hd.r, u]) ∧ RdF w' u P.hd.f ∧ Below w.heap.size w w' := by
  obtain ⟨tv, gv, fv, h1, h2, h3, h4, -⟩ := h.ex
  have e1 : (w.alloc (.cells #[.string ⟨#[]⟩, .string ⟨#[]⟩, .int .i64 0, .int .i64 0, .string ⟨#[]⟩, .slice none 0 0] 29)).heap.size = w.heap.size + 1 := World.size_alloc _ _
  have HA := Kp.mk ((Below.refl _ w).alloc (Nat.le_refl _) (.cells #[.string ⟨#[]⟩, .string ⟨#[]⟩, .int .i64 0, .int .i64 0, .string ⟨#[]⟩, .slice none 0 0] 29))
  have HZ0 := Kp.mk (heap_alloc_new w (.cells #[.string ⟨#[]⟩, .string ⟨#[]⟩, .int .i64 0, .int .i64 0, .string ⟨#[]⟩, .slice none 0 0] 29))
  have HD := Kp.mk (pdone_any A b bl most kind l0 l1 l2 l3 l4 P _ (h.below HA.out))
  have HK1 := Kp.mk ((HA.out.block b (blk_lt h1)).trans h1)
  obtain ⟨fa, fc, rfl⟩ := own_lenH h4
  have HRF := Kp.mk (rdf_own (l := P.hd.f) h4)
  rw [he, her] at HD
  clear h h2 h3 h4
  go_enter Tryz.func22, Tryz.ntmps22
  go_wp2_with fail
  refine HD.out.mono ?_
  rintro e w1 ⟨rfl, rfl⟩
  go_upto_region 3 with fail
  repeat ((fail_if_success (with_reducible show Oper.wp _ (Oper.mk _ (.load _ _) _ _ _ _) _ _ _ _)); go_step)
  refine wp_load_mid _ _ (by rfl) b 9 (by rfl) [.string P.hd.m, .string P.hd.t, .int .i64 P.hd.mi, .int .i64 P.hd.st, .string P.hd.r, .slice fa P.hd.f.length fc] _ (fun j v hj => match j, hj with | 0, q => blk_cell (i := 9) HK1.out q | 1, q => blk_cell (i := 10) HK1.out q | 2, q => blk_cell (i := 11) HK1.out q | 3, q => blk_cell (i := 12) HK1.out q | 4, q => blk_cell (i := 13) HK1.out q | 5, q => blk_cell (i := 14) HK1.out q | n + 6, q => by simp at q) Tryz.underlying29 rfl (by kernel_rfl) ?_
  simp only [Act.put]
  have HN := Kp.mk (show ((w.alloc (.cells #[.string ⟨#[]⟩, .string ⟨#[]⟩, .int .i64 0, .int .i64 0, .string ⟨#[]⟩, .slice none 0 0] 29)).alloc (.cells #[.string ⟨#[]⟩, .string ⟨#[]⟩, .int .i64 0, .int .i64 0, .string ⟨#[]⟩, .slice none 0 0] 29)).heap[w.heap.size + 1]? = some (.cells #[.string ⟨#[]⟩, .string ⟨#[]⟩, .int .i64 0, .int .i64 0, .string ⟨#[]⟩, .slice none 0 0] 29 (0, 0)) from by
    have := heap_alloc_new (w.alloc (.cells #[.string ⟨#[]⟩, .string ⟨#[]⟩, .int .i64 0, .int .i64 0, .string ⟨#[]⟩, .slice none 0 0] 29)) (.cells #[.string ⟨#[]⟩, .string ⟨#[]⟩, .int .i64 0, .int .i64 0, .string ⟨#[]⟩, .slice none 0 0] 29)
    rw [e1] at this
    exact this)
  have HZ2 := Kp.mk ((setRow_otherH #[.string P.hd.m, .string P.hd.t, .int .i64 P.hd.mi, .int .i64 P.hd.st, .string P.hd.r, .slice fa P.hd.f.length fc] (show w.heap.size ≠ w.heap.size + 1 by omega)).trans (blk_alloc (o2 := .cells #[.string ⟨#[]⟩, .string ⟨#[]⟩, .int .i64 0, .int .i64 0, .string ⟨#[]⟩, .slice none 0 0] 29) HZ0.out))
  have HR2 := Kp.mk (setRow_heap _ _ _ (#[.string P.hd.m, .string P.hd.t, .int .i64 P.hd.mi, .int .i64 P.hd.st, .string P.hd.r, .slice fa P.hd.f.length fc] : Array Value) _ _ HN.out)
  have HB2 := Kp.mk (below_setRow (HA.out.alloc (by rw [e1]; omega) (.cells #[.string ⟨#[]⟩, .string ⟨#[]⟩, .int .i64 0, .int .i64 0, .string ⟨#[]⟩, .slice none 0 0] 29)) (show w.heap.size ≤ w.heap.size + 1 by omega) (#[.string P.hd.m, .string P.hd.t, .int .i64 P.hd.mi, .int .i64 P.hd.st, .string P.hd.r, .slice fa P.hd.f.length fc] : Array Value))
  repeat ((fail_if_success (with_reducible show Oper.wp _ (Oper.mk _ (.store _ _ _) _ _ _ _) _ _ _ _)); go_step)
  refine wp_store_row _ _ _ (by rfl) _ #[.string P.hd.m, .string P.hd.t, .int .i64 P.hd.mi, .int .i64 P.hd.st, .string P.hd.r, .slice fa P.hd.f.length fc] (by rfl) (by rfl) _ _ HN.out (by kernel_rfl) rfl (by simp [Value.oneCell']) ?_
  simp only [Act.put]
  generalize ((w.alloc (.cells #[.string ⟨#[]⟩, .string ⟨#[]⟩, .int .i64 0, .int .i64 0, .string ⟨#[]⟩, .slice none 0 0] 29)).alloc (.cells #[.string ⟨#[]⟩, .string ⟨#[]⟩, .int .i64 0, .int .i64 0, .string ⟨#[]⟩, .slice none 0 0] 29)).setRow (w.heap.size + 1) #[.string P.hd.m, .string P.hd.t, .int .i64 P.hd.mi, .int .i64 P.hd.st, .string P.hd.r, .slice fa P.hd.f.length fc] = w2 at *
  have k5 := blk_cell (i := 5) HR2.out rfl
  clear HN HK1 HZ0 HA h1
  go_wp2_with fail
  refine (cloneH_any _ P.hd.f _ (HRF.out.below (HB2.out)) hl).mono ?_
  rintro e w3 ⟨u, rfl, hu, hb3⟩
  obtain ⟨ua, uc, rfl⟩ := own_lenH hu
  have HU := Kp.mk (rdf_own (l := P.hd.f) hu)
  have HUO := Kp.mk hu
  have HR3 := Kp.mk ((hb3.block _ (blk_lt HR2.out)).trans HR2.out)
  have HZ3 := Kp.mk ((hb3.block _ (blk_lt HZ2.out)).trans HZ2.out)
  have HB3 := Kp.mk (HB2.out.trans (hb3.mono HB2.out.size))
  have hz2 := blk_lt HR2.out
  have x5 := blk_cell (i := 5) HR3.out rfl
  have f5 := blk_free (i := 5) HR3.out
  have HR4 := Kp.mk (show (w3.setCell ⟨w.heap.size + 1, 5, none⟩ (.slice ua P.hd.f.length uc)).heap[w.heap.size + 1]? = some (.cells #[.string P.hd.m, .string P.hd.t, .int .i64 P.hd.mi, .int .i64 P.hd.st, .string P.hd.r, .slice ua P.hd.f.length uc] 29 (0, 0)) from (blk_set HR3.out _).trans rfl)
  have HZ4 := Kp.mk (blk_set_other (b := w.heap.size + 1) (i := 5) HZ3.out (by omega) (.slice ua P.hd.f.length uc))
  have HB4 := Kp.mk (HB3.out.setCell (p := ⟨w.heap.size + 1, 5, none⟩) (by show w.heap.size ≤ w.heap.size + 1; omega) (.slice ua P.hd.f.length uc))
  have HO4 := Kp.mk (own_otherH (b := w.heap.size + 1) (o := 5) (u := .slice ua P.hd.f.length uc) HUO.out (by omega))
  clear hu hb3 k5
  go_upto_region 5 with fail
  repeat ((fail_if_success (with_reducible show Oper.wp _ (Oper.mk _ (.load _ _) _ _ _ _) _ _ _ _)); go_step)
  refine wp_load_row _ _ (by rfl) (w.heap.size + 1) (by rfl) _ _ _ _ HR4.out Tryz.underlying29 rfl (by kernel_rfl) ?_
  simp only [Act.put]
  repeat ((fail_if_success (with_reducible show Oper.wp _ (Oper.mk _ (.store _ _ _) _ _ _ _) _ _ _ _)); go_step)
  refine wp_store_row _ _ _ (by rfl) _ #[.string P.hd.m, .string P.hd.t, .int .i64 P.hd.mi, .int .i64 P.hd.st, .string P.hd.r, .slice ua P.hd.f.length uc] (by rfl) (by rfl) _ _ HZ4.out (by kernel_rfl) rfl (by simp [Value.oneCell']) ?_
  go_wp2_with fail
  refine bodyPost_ret (v := .agg #[.string P.hd.m, .string P.hd.t, .int .i64 P.hd.mi, .int .i64 P.hd.st, .string P.hd.r, .slice ua P.hd.f.length uc]) ?_ rfl ⟨.slice ua P.hd.f.length uc, rfl, rdf_own (own_setRowH HO4.out (by omega) _), below_setRow HB4.out (Nat.le_refl _) _⟩
  exact results_cell_row (p := 2) (ty := 29) (by kernel_rfl) _ _ w.heap.size _ _ _ _ (by rfl) (setRow_heap _ _ _ _ _ _ HZ4.out) Tryz.underlying29 rfl (by kernel_rfl)
end Go.Proofs.YtcbfhlnnfnpkdaaGreatDoor
