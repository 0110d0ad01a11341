/- Refusals (layer 33): their heads, the program's and the document's. -/
import Derived.Test.YtlpcjnjhpgddmaaRea
import Derived.Test.YtlpcjnjhpgddmaaHde
import Derived.Test.YtlpcjnjhpgddmaaStc
namespace Go.Proofs.Ytlpcjnjhpgddmaa
open Go.RowKit
set_option linter.unusedVariables false
set_option linter.unusedSimpArgs false

def mnI (minor : Int) : Int := if 0 < minor then 1 else 0
theorem mn_max (minor : Int) : max 0 (min minor 1) = mnI minor := by unfold mnI; split <;> omega
def f33 (now : Int) (S : ByteArray) : List Fld := if S.size = 0 then [(⟨#[67, 111, 110, 116, 101, 110, 116, 45, 76, 101, 110, 103, 116, 104]⟩, ⟨#[48]⟩), (⟨#[67, 111, 110, 110, 101, 99, 116, 105, 111, 110]⟩, ⟨#[99, 108, 111, 115, 101]⟩)] else [(⟨#[68, 97, 116, 101]⟩, S), (⟨#[67, 111, 110, 116, 101, 110, 116, 45, 76, 101, 110, 103, 116, 104]⟩, ⟨#[48]⟩), (⟨#[67, 111, 110, 110, 101, 99, 116, 105, 111, 110]⟩, ⟨#[99, 108, 111, 115, 101]⟩)]
def hv33 (s minor : Int) (u : Value) : Value := .agg #[.string ⟨#[]⟩, .string ⟨#[]⟩, .int .i64 (mnI minor), .int .i64 s, .string (rsnS s), u]
theorem Try.infoF33 : (Try.prog.info? 34).map (fun i => (i.zero, i.size, i.bytes)) = some (some (.agg #[.string ⟨#[]⟩, .string ⟨#[]⟩]), 2, 32) := by kernel_rfl
/-- A literal of some elements behind a row of the call's own. -/
theorem app_lit {P : Program} {wr : World} {ops : Array Oper} {rest : List Oper} {o : Oper} {a : Act} {Q : Exit → Act → World → Prop} (hgd : o.guard = none) (s x : Operand) (t e : TypeId)
    (ho : o.op = .call { callee := .builtin .append, args := #[s, x], argTypes := #[t, t] }) (ht : P.underlying t = some (.slice e)) (z : Value) (sz by_ : Nat)
    (hi : (P.info? e).map (fun i => (i.zero, i.size, i.bytes)) = some (some z, sz, by_)) (hz : z.cells.size = sz) (hsz : 0 < sz) (B : Nat) (v : Value) (n : Nat) (xs : List Value) (hs : a.eval s = v) (hown : wr.ownsRow B e sz v n xs)
    (cs : Array Value) (m : Nat) (hcs : cs.size = m * sz) (hone : ∀ u ∈ cs.toList, u.oneCell' = true) (H : Nat) (hH : wr.heap.size = H) (hx : a.eval x = .slice (some ⟨H, 0, none⟩) m m) (hm0 : 0 < m) (hlen : (n + m) * by_ ≤ 140737488355328) (hm : n + m ≤ maxLen) (hB : B ≤ wr.heap.size)
    (h : ∀ g' cap' w', w'.ownsRow B e sz (.slice (some ⟨g', 0, none⟩) (n + m) cap') (n + m) (xs ++ cs.toList) → (wr.alloc (.cells cs e)).grownBy w' v.ownBlock → wpList P ops Q rest (a.put o.dst (.slice (some ⟨g', 0, none⟩) (n + m) cap')) w') :
    wpList P ops Q (o :: rest) a (wr.alloc (.cells cs e)) := by
  subst hH
  obtain ⟨i0, hi, hz0, hz1, hz2⟩ := info_parts hi
  refine wpList_append_own_at _ hgd s x t ho B e i0 z sz by_ ht hi hz0 hz1 hz2 hz hsz v n xs hs (hown.alloc _) ⟨wr.heap.size, 0, none⟩ m m cs.toList hx (by simp [hcs]) (cells_new _ _ _) hone hm hlen (by simp; omega) ?_
  intro v' w' h1 h2 _ h4
  rcases h1.2 with ⟨_, h0⟩ | ⟨g, cap, cur, hv, r⟩
  · omega
  · subst hv
    exact h g cap w' h1 h2
set_option maxRecDepth 100000 in
set_option maxHeartbeats 2000000 in
theorem bare33_any (s minor : Int) (w : World) : Calls Try.prog 64 #[.int .i64 s, .int .i64 minor] w fun r w' => r = .returned (hv33 s minor (.slice none 0 0)) ∧ Below w.heap.size w w' := by
  have hmx := mn_max minor
  have HR := Kp.mk (reason_any s)
  unfold hv33
  generalize rsnS s = R at *
  generalize mnI minor = mi at *
  have k1 := heap_alloc_new w (.cells #[.string ⟨#[]⟩, .string ⟨#[]⟩, .int .i64 mi, .int .i64 s, .string R, .slice none 0 0] 42)
  have z0 := blk_cell (i := 0) k1 rfl
  have z1 := blk_cell (i := 1) k1 rfl
  have z2 := blk_cell (i := 2) k1 rfl
  have z3 := blk_cell (i := 3) k1 rfl
  have z4 := blk_cell (i := 4) k1 rfl
  have z5 := blk_cell (i := 5) k1 rfl
  go_enter Try.func64, Try.ntmps64
  go_wp2_with fail
  refine (HR.out _).mono ?_
  rintro e w1 ⟨rfl, rfl⟩
  go_wp2_with fail
  exact bodyPost_ret (v := .agg #[.string ⟨#[]⟩, .string ⟨#[]⟩, .int .i64 mi, .int .i64 s, .string R, .slice none 0 0]) (by simp [results, Try.results64, go_sem, z0, z1, z2, z3, z4, z5]) rfl ⟨rfl, (Below.refl _ _).alloc (Nat.le_refl _) _⟩
set_option maxRecDepth 100000 in
set_option maxHeartbeats 2000000 in
theorem cont33_any (minor : Int) (w : World) : Calls Try.prog 30 #[.int .i64 minor] w fun r w' => r = .returned (hv33 100 minor (.slice none 0 0)) ∧ Below w.heap.size w w' := by
  have HB := Kp.mk (bare33_any 100 minor)
  unfold hv33 at HB ⊢
  generalize rsnS 100 = R at *
  generalize mnI minor = mi at *
  have k0 := heap_alloc_new w (.cells #[.string ⟨#[]⟩, .string ⟨#[]⟩, .int .i64 0, .int .i64 0, .string ⟨#[]⟩, .slice none 0 0] 42)
  go_enter Try.func30, Try.ntmps30
  go_wp2_with fail
  refine (HB.out _).mono ?_
  rintro e w1 ⟨rfl, hb1⟩
  have k1 := (hb1.block _ (by simp)).trans k0
  have z0 := blk_cell (i := 0) k1 rfl
  have f0 := blk_free (i := 0) k1
  have z1 := blk_cell (i := 1) k1 rfl
  have f1 := blk_free (i := 1) k1
  have z2 := blk_cell (i := 2) k1 rfl
  have f2 := blk_free (i := 2) k1
  have z3 := blk_cell (i := 3) k1 rfl
  have f3 := blk_free (i := 3) k1
  have z4 := blk_cell (i := 4) k1 rfl
  have f4 := blk_free (i := 4) k1
  have z5 := blk_cell (i := 5) k1 rfl
  have f5 := blk_free (i := 5) k1
  have HB1 := Kp.mk (((Below.refl w.heap.size w).alloc (Nat.le_refl _) (.cells #[.string ⟨#[]⟩, .string ⟨#[]⟩, .int .i64 0, .int .i64 0, .string ⟨#[]⟩, .slice none 0 0] 42)).trans (hb1.mono (by simp)))
  have K1 := Kp.mk k1
  clear k0 k1 hb1
  go_wp2_with fail
  have q := (blk_set (blk_set (blk_set (blk_set (blk_set (blk_set K1.out (i := 0) (.string ⟨#[]⟩)) (i := 1) (.string ⟨#[]⟩)) (i := 2) (.int .i64 mi)) (i := 3) (.int .i64 100)) (i := 4) (.string R)) (i := 5) (.slice none 0 0))
  have y0 := blk_cell (i := 0) q rfl
  have y1 := blk_cell (i := 1) q rfl
  have y2 := blk_cell (i := 2) q rfl
  have y3 := blk_cell (i := 3) q rfl
  have y4 := blk_cell (i := 4) q rfl
  have y5 := blk_cell (i := 5) q rfl
  exact bodyPost_ret (v := .agg #[.string ⟨#[]⟩, .string ⟨#[]⟩, .int .i64 mi, .int .i64 100, .string R, .slice none 0 0]) (by simp [results, Try.results30, go_sem, y0, y1, y2, y3, y4, y5]) rfl ⟨rfl, (((((HB1.out.setCell (by simp) _).setCell (by simp) _).setCell (by simp) _).setCell (by simp) _).setCell (by simp) _).setCell (by simp) _⟩
end Go.Proofs.Ytlpcjnjhpgddmaa
