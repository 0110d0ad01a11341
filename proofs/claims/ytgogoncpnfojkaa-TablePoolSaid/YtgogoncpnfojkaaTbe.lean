/- Pools (layer 40): Len, Put, out. -/
import Derived.Test.YtgogoncpnfojkaaTbd
namespace Go.Proofs.Ytgogoncpnfojkaa
open Go.RowKit
set_option linter.unusedVariables false
set_option linter.unusedSimpArgs false

/-- A pool: its block holds a row of its own. -/
structure PB (b : Nat) (v : Value) (L : List Ent) (w : World) : Prop where
  hb : w.heap[b]? = some (.cells #[v] 26 (0, 0))
  hr : w.ownsRow (b + 1) 124 2 v L.length (enL L)
theorem PB.ne {b : Nat} {v : Value} {L : List Ent} {w : World} (h : PB b v L w) : v.ownBlock ≠ some b := by
  rcases h.hr.2 with ⟨rfl, _⟩ | ⟨g, cap, cur, rfl, h1, _⟩
  · simp [Value.ownBlock]
  · simp [Value.ownBlock]; omega
theorem PB.form {b : Nat} {v : Value} {L : List Ent} {w : World} (h : PB b v L w) : ∃ a c, v = .slice a L.length c := by
  rcases h.hr.2 with ⟨rfl, h0⟩ | ⟨g, cap, cur, rfl, h1, _⟩
  · exact ⟨none, 0, by rw [h0]⟩
  · exact ⟨_, _, rfl⟩
theorem PB.some {b : Nat} {v : Value} {L : List Ent} {w : World} (h : PB b v L w) (h0 : 0 < L.length) : ∃ g c, v = .slice (some ⟨g, 0, none⟩) L.length c ∧ b < g := by
  rcases h.hr.2 with ⟨rfl, h1⟩ | ⟨g, cap, cur, rfl, h1, _⟩
  · omega
  · exact ⟨g, cap, rfl, h1⟩
theorem own_under {w : World} {B : Nat} {e : TypeId} {sz n : Nat} {v : Value} {xs : List Value} {b o : Nat} {u : Value} (h : w.ownsRow B e sz v n xs) (hb : b < B) : (w.setCell ⟨b, o, none⟩ u).ownsRow B e sz v n xs := by
  refine ⟨h.1, ?_⟩
  rcases h.2 with h2 | ⟨g, cap, cur, rfl, h3, hg, rest⟩
  · exact .inl h2
  · exact .inr ⟨g, cap, cur, rfl, h3, blk_set_other hg (by omega) _, rest⟩
theorem own_apart {w : World} {B : Nat} {e : TypeId} {sz n : Nat} {v : Value} {xs : List Value} {b o : Nat} {u : Value} (h : w.ownsRow B e sz v n xs) (hb : v.ownBlock ≠ some b) : (w.setCell ⟨b, o, none⟩ u).ownsRow B e sz v n xs := by
  refine ⟨h.1, ?_⟩
  rcases h.2 with h2 | ⟨g, cap, cur, rfl, h3, hg, rest⟩
  · exact .inl h2
  · exact .inr ⟨g, cap, cur, rfl, h3, blk_set_other hg (fun e => hb (by rw [← e]; rfl)) _, rest⟩
theorem Onl.setNew {b : Nat} {g : Option Nat} {u w : World} (h : Onl b g u w) {k : Nat} (hk : u.heap.size ≤ k) (o : Nat) (x : Value) : Onl b g u (w.setCell ⟨k, o, none⟩ x) :=
  ⟨h.os, h.tape, h.output, by have := h.size; simp [World.setCell]; exact this, fun j hj h1 h2 => (Below.heap_setCell _ _ _ _ (by show j ≠ k; omega)).trans (h.block j hj h1 h2)⟩
theorem enL_snoc (L : List Ent) (p : Ent) : enL (L ++ [p]) = enL L ++ enC p := by rw [enL_app]; unfold enL; simp
theorem enL_at {L : List Ent} {i : Nat} (h : i < L.length) : (enL L)[i * 2]? = some (.int .i64 L[i].1) ∧ (enL L)[i * 2 + 1]? = some (.int .i64 L[i].2) := by
  constructor
  · exact (flat_at (f := enC) (sz := 2) (fun _ => rfl) L i h 0 (by omega)).trans rfl
  · exact (flat_at (f := enC) (sz := 2) (fun _ => rfl) L i h 1 (by omega)).trans rfl
def OutP (r : Value) (b : Nat) (v : Value) (L : List Ent) (w : World) (e : Ending) (w' : World) : Prop :=
  ∃ v', e = .returned r ∧ PB b v' L w' ∧ Onl b v.ownBlock w w' ∧ Nxt w v.ownBlock v'.ownBlock
set_option maxHeartbeats 400000 in
theorem plen_any (b : Nat) (v : Value) (L : List Ent) (w : World) (h : PB b v L w) : Calls Try.prog 20 #[.pointer (some ⟨b, 0, none⟩)] w fun e w' => e = .returned (.int .i64 L.length) ∧ w = w' := by
  obtain ⟨a, c, rfl⟩ := h.form
  have c0 := blk_cell (i := 0) h.hb rfl
  clear h
  go_enter Try.func20, Try.ntmps20
  go_wp2_with fail
  go_ret
  exact ⟨rfl, rfl⟩
set_option maxRecDepth 100000 in
set_option maxHeartbeats 2000000 in
theorem pput_any (b : Nat) (v : Value) (L : List Ent) (k x : Int) (w : World) (h : PB b v L w) (hl : L.length ≤ 1000) :
    Calls Try.prog 16 #[.pointer (some ⟨b, 0, none⟩), .int .i64 k, .int .i64 x] w (OutP (.tuple #[]) b v (L ++ [(k, x)]) w) := by
  have H := Kp.mk h
  have c0 := blk_cell (i := 0) h.hb rfl
  have c0' := (Below.refl w.heap.size w |>.alloc (Nat.le_refl _) (.cells #[.int .i64 k, .int .i64 x] 124)).cell (p := ⟨b, 0, none⟩) (blk_lt h.hb) |>.trans c0
  have hlen : (L.length + 1) * 16 ≤ 140737488355328 := by omega
  have hmx : L.length + 1 ≤ maxLen := by unfold maxLen; omega
  have hsz : b + 1 ≤ w.heap.size := blk_lt h.hb
  unfold OutP
  clear h
  go_enter Try.func16, Try.ntmps16
  go_wp2_with (at_builtin; refine app_any rfl _ _ _ _ rfl Try.underlying24 _ _ _ Try.infoEn rfl (by omega) (b + 1) _ _ _ rfl H.out.hr #[.int .i64 k, .int .i64 x] rfl (fun u hu => by simp at hu; rcases hu with rfl | rfl <;> rfl) _ rfl rfl hlen hmx hsz ?_; intro g' cap' w' h1 h2 h3; have G1 := Kp.mk h1; have G2 := Kp.mk h2; have G3 := Kp.mk h3; have k1 := (h2.block b (by simp; omega) (fun e => H.out.ne e.symm)).trans (blk_alloc H.out.hb); have e0 := blk_cell (i := 0) k1 rfl; have e1 := blk_free (i := 0) k1; have K1 := Kp.mk k1; clear h1 h2 h3 k1)
  go_end0
  refine ⟨rfl, _, ⟨(blk_set K1.out _).trans rfl, ?_⟩, ?_, ?_⟩
  · rw [List.length_append, enL_snoc]
    exact own_under G1.out (Nat.lt_succ_self b)
  · exact (((Onl.refl b v.ownBlock w).alloc _).grown G2.out).setCell 0 _
  · rcases G3.out with h3 | h3
    · exact .inl h3.symm
    · exact .inr ⟨g', rfl, by rw [h3]; exact Nat.le_succ _⟩
set_option maxRecDepth 100000 in
set_option maxHeartbeats 2000000 in
theorem pout_any (b : Nat) (v : Value) (L : List Ent) (i : Nat) (w : World) (h : PB b v L w) (hi : i < L.length) (hl : L.length ≤ 1000) :
    Calls Try.prog 70 #[.pointer (some ⟨b, 0, none⟩), .int .i64 i] w (OutP (.agg #[.int .i64 L[i].1, .int .i64 L[i].2]) b v (L.take i ++ L.drop (i + 1)) w) := by
  obtain ⟨g, c, rfl, hg⟩ := h.some (by omega)
  have hbl : b < w.heap.size := blk_lt h.hb
  have HDL := Kp.mk (fun (j : Nat) (hj : j = i + 1) (W : World) (hW : W.ownsRow (b + 1) 124 2 (.slice (some ⟨g, 0, none⟩) L.length c) L.length (enL L)) => pdel_any g c i j (b + 1) L W hW hj hi (by omega))
  have hgl : g < w.heap.size := by obtain ⟨-, -, -, cur, q, -⟩ := own_facts h.hr; exact blk_lt q
  have HB2 := Kp.mk (((Below.refl w.heap.size w).alloc (Nat.le_refl _) (.cells #[.int .i64 0, .int .i64 0] 124)).alloc (by simp) (.cells #[.int .i64 0, .int .i64 0] 124))
  have hat := enL_at hi
  have c0 := blk_cell (i := 0) h.hb rfl
  have HR := Kp.mk h.hr
  have HBb := Kp.mk h.hb
  have c1 := own_cells h.hr hat.1
  have c2 := own_cells h.hr hat.2
  have hgw : IntKind.i64.wrap ((i : Int) + 1) = ((i + 1 : Nat) : Int) := by rw [wrap_small _ (by omega) (by omega)]; omega
  have hii : (i : Int) < (L.length : Int) := by omega
  have hi0 : (0 : Int) ≤ (i : Int) := by omega
  unfold OutP
  generalize L[i] = p at *
  obtain ⟨p1, p2⟩ := p
  have HN := Kp.mk (show (L.take i ++ L.drop (i + 1)).length = L.length - 1 by rw [List.length_append, List.length_take, List.length_drop]; omega)
  clear h hat
  go_enter Try.func70, Try.ntmps70
  go_wp2_with fail
  rw [show ((i : Int) + 1) = ((i + 1 : Nat) : Int) by omega]
  refine (HDL.out (i + 1) rfl _ ?_).mono ?_
  · exact (HR.out.alloc _).alloc _
  rintro e w3 ⟨rfl, ho, hgr⟩
  have HO := Kp.mk ho
  have HG := Kp.mk hgr
  have kb := (hgr.block b (by simp; omega) (fun e => by simp at e; omega)).trans (blk_alloc (o2 := .cells #[.int .i64 p1, .int .i64 p2] 124) (blk_alloc (o2 := .cells #[.int .i64 0, .int .i64 0] 124) HBb.out))
  have e0 := blk_cell (i := 0) kb rfl
  have e1 := blk_free (i := 0) kb
  have s1 := heap_alloc_new w (.cells #[.int .i64 0, .int .i64 0] 124)
  have s2 := heap_alloc_new (w.alloc (.cells #[.int .i64 0, .int .i64 0] 124)) (.cells #[.int .i64 p1, .int .i64 p2] 124)
  rw [World.size_alloc] at s2
  have r1 := (hgr.block w.heap.size (by simp; omega) (fun e => by simp at e; omega)).trans (blk_alloc (o2 := .cells #[.int .i64 p1, .int .i64 p2] 124) s1)
  have r2 := (hgr.block (w.heap.size + 1) (by simp) (fun e => by simp at e; omega)).trans s2
  have d10 := blk_cell (i := 0) r1 rfl
  have d11 := blk_cell (i := 1) r1 rfl
  have d12 := blk_free (i := 0) r1
  have d13 := blk_free (i := 1) r1
  have d20 := blk_cell (i := 0) r2 rfl
  have d21 := blk_cell (i := 1) r2 rfl
  have hnb1 : ¬ w.heap.size = b := by omega
  have hnb2 : ¬ w.heap.size + 1 = b := by omega
  have hnb3 : ¬ b = w.heap.size := by omega
  have hnb4 : ¬ b = w.heap.size + 1 := by omega
  have KB := Kp.mk kb
  have R1 := Kp.mk r1
  clear ho hgr kb s1 s2 r1 r2 c0 c1 c2
  go_wp2_with fail
  have q1 := (blk_set (i := 1) (blk_set (i := 0) (blk_set_other (b := b) (i := 0) R1.out (by omega) (.slice (some ⟨g, 0, none⟩) (L.length - 1) c)) (.int .i64 p1)) (.int .i64 p2))
  have y0 := blk_cell (i := 0) (v := .int .i64 p1) q1 rfl
  have y1 := blk_cell (i := 1) (v := .int .i64 p2) q1 rfl
  refine bodyPost_ret (v := .agg #[.int .i64 p1, .int .i64 p2]) (by simp [results, Try.results70, go_sem, y0, y1]) rfl ?_
  refine ⟨_, rfl, ⟨(blk_set_other (blk_set_other (blk_set KB.out _) (by omega) _) (by omega) _).trans rfl, ?_⟩, ?_, .inl rfl⟩
  · rw [HN.out]
    exact own_apart (own_apart (own_under HO.out (Nat.lt_succ_self b)) (by simp [Value.ownBlock]; omega)) (by simp [Value.ownBlock]; omega)
  · exact Onl.setNew (Onl.setNew ((((Onl.refl b (some g) w).alloc _).alloc _ |>.grown HG.out).setCell 0 _) (Nat.le_refl _) _ _) (Nat.le_refl _) _ _
end Go.Proofs.Ytgogoncpnfojkaa
