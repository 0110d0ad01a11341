/- Lines that begin chunks: Line, Sizes; the document's example; the law ChunkParses (layer 14). -/
import Derived.Test.YtjbadcfhhcmnoaaChb
namespace Go.Proofs.Ytjbadcfhhcmnoaa
open Go.RowKit
set_option linter.unusedVariables false
set_option linter.unusedSimpArgs false

def iv (l : List Int) : List Value := l.map fun n => Value.int .i64 n
theorem iv_len (l : List Int) : (iv l).length = l.length := by simp [iv]
theorem iv_snoc (l : List Int) (n : Int) : iv (l ++ [n]) = iv l ++ [.int .i64 n] := by simp [iv]
theorem iv_at (l : List Int) (j : Nat) (h : j < l.length) : (iv l)[j]? = some (.int .i64 l[j]) := by simp [iv, h]
theorem Try.infoI : (Try.prog.info? 3).map (fun i => (i.zero, i.size, i.bytes)) = some (some (.int .i64 0), 1, 8) := by kernel_rfl

theorem app_int {P : Program} {wr : World} {ops : Array Oper} {rest : List Oper} {o : Oper} {a : Act} {Q : Exit → Act → World → Prop} (hgd : o.guard = none) (s x : Operand) (t e : TypeId)
    (ho : o.op = .call { callee := .builtin .append, args := #[s, x], argTypes := #[t, t] }) (ht : P.underlying t = some (.slice e))
    (hi : (P.info? e).map (fun i => (i.zero, i.size, i.bytes)) = some (some (.int .i64 0), 1, 8)) (B : Nat) (v : Value) (l : List Int) (hs : a.eval s = v) (hown : wr.ownsRow B e 1 v l.length (iv l))
    (n : Int) (H : Nat) (hH : wr.heap.size = H) (hx : a.eval x = .slice (some ⟨H, 0, none⟩) 1 1) (hlen : l.length < 1099511627776) (hB : B ≤ wr.heap.size)
    (h : ∀ v' w', w'.ownsRow B e 1 v' (l ++ [n]).length (iv (l ++ [n])) → Below B wr w' → (wr.alloc (.cells #[.int .i64 n] e)).grownBy w' v.ownBlock → wpList P ops Q rest (a.put o.dst v') w') :
    wpList P ops Q (o :: rest) a (wr.alloc (.cells #[.int .i64 n] e)) := by
  subst hH
  obtain ⟨i0, hi, hz0, hz1, hz2⟩ := info_parts hi
  refine wpList_append_own _ hgd s x t ho B e i0 (.int .i64 0) 1 8 ht hi hz0 hz1 hz2 rfl (by decide) v l.length (iv l) hs (hown.alloc _) ⟨wr.heap.size, 0, none⟩ 1 1 [.int .i64 n] hx rfl (cell_one_new _ _ _) (fun u hu => by simp at hu; subst hu; rfl) (by unfold maxLen; omega) (by omega) (by simp; omega) ?_
  intro v' w' h1 h2 _
  refine h v' w' ?_ (((Below.refl B wr).alloc hB _).grown h2 (by simp; omega) fun k hk => (hown.lt k hk).1) h2
  rw [iv_snoc, List.length_append]
  exact h1

/-- The slice v holds the numbers l. -/
def RdI (w : World) (v : Value) (l : List Int) : Prop :=
  (v = .slice none 0 0 ∧ l = []) ∨ ∃ g cap, v = .slice (some ⟨g, 0, none⟩) l.length cap ∧ l.length ≤ cap ∧ g < w.heap.size ∧ ∀ (j : Nat) (h : j < l.length), w.cell? ⟨g, j, none⟩ = some (.int .i64 l[j])
theorem RdI.below {w w' : World} {v : Value} {l : List Int} (h : RdI w v l) (hb : Below w.heap.size w w') : RdI w' v l := by
  rcases h with h | ⟨g, cap, h1, h2, h3, h4⟩
  · exact .inl h
  · exact .inr ⟨g, cap, h1, h2, Nat.lt_of_lt_of_le h3 hb.size, fun j hj => by rw [(bcell hb).1 g _ h3]; exact h4 j hj⟩
theorem RdI.of_own {w : World} {B : Nat} {e : TypeId} {v : Value} {l : List Int} (h : w.ownsRow B e 1 v l.length (iv l)) : RdI w v l := by
  rcases h.2 with ⟨h1, h2⟩ | ⟨g, cap, cur, h1, hb, hh, hn, hc, hr⟩
  · exact .inl ⟨h1, List.length_eq_zero_iff.1 h2⟩
  · have hl := (h.lt g (by rw [h1]; rfl)).2
    refine .inr ⟨g, cap, h1, hn, hl, fun j hj => ?_⟩
    have d1 := h.cells (g := g) (by rw [h1]; rfl) _ _ (iv_at l j hj)
    rw [Addr.add_lit] at d1
    simpa using d1

set_option maxRecDepth 100000 in
set_option maxHeartbeats 4000000 in
theorem sameints_eq (v1 v2 : Value) (l : List Int) (w : World) (h1 : RdI w v1 l) (h2 : RdI w v2 l) (hl : l.length ≤ 10000000) :
    Calls Try.prog 50 #[v1, v2] w fun e w' => e = .returned (.bool true) ∧ Below w.heap.size w w' := by
  have hf : ∀ v, RdI w v l → ∃ a c, v = .slice a l.length c ∧ (0 < l.length → ∃ g, a = some ⟨g, 0, none⟩ ∧ l.length ≤ c ∧ ∀ (j : Nat) (h : j < l.length), w.cell? ⟨g, j, none⟩ = some (.int .i64 l[j])) := by
    intro v hv
    rcases hv with ⟨rfl, rfl⟩ | ⟨g, cap, rfl, h, _, hc⟩
    · exact ⟨none, 0, rfl, fun h => by simp at h⟩
    · exact ⟨_, cap, rfl, fun _ => ⟨g, rfl, h, hc⟩⟩
  obtain ⟨a1, c1, rfl, g1⟩ := hf _ h1
  obtain ⟨a2, c2, rfl, g2⟩ := hf _ h2
  have G1 := Hd.mk g1
  have G2 := Hd.mk g2
  clear h1 h2 hf g1 g2
  go_enter Try.func50, Try.ntmps50
  go_wp2_with fail
  go_loopw [5] (fun i wr => ∃ k : Nat, k ≤ l.length ∧ i = .int .i64 k ∧ ∃ m, wr = w.drewN m) (fun i _ => l.length - (intOf i).toNat)
  case atStart => exact ⟨0, by omega, rfl, 0, rfl⟩
  case round =>
    obtain ⟨k, hk, rfl, m, rfl⟩ := hrel
    by_cases hlt : k < l.length
    · obtain ⟨b1, rfl, k1, d1⟩ := G1.out (by omega)
      obtain ⟨b2, rfl, k2, d2⟩ := G2.out (by omega)
      have e1 := d1 k hlt
      have e2 := d2 k hlt
      have q0 : (0 : Int) ≤ (k : Int) := by omega
      have q1 : (k : Int) < (l.length : Int) := by omega
      clear d1 d2
      go_wp2_with fail
      go_quiet (fail)
      go_wp2_with fail
      go_roundw
      case rel => exact ⟨k + 1, by omega, by go_num, _, rfl⟩
      case measure => simp [intOf]; omega
    · go_wp2_with fail
      go_ret
      exact ⟨rfl, below_drewN _ _⟩

def lineS (n : Int) : ByteArray := if n < 0 then ⟨#[]⟩ else ofL (hexL n) ++ ⟨#[13, 10]⟩
theorem hexL_len (n : Int) : (hexL n).length ≤ 20 := by unfold hexL; split; · simp
                                                        · exact wdig_len _ _ _
theorem line_any (n : Int) (w : World) (h0 : -9223372036854775808 ≤ n) (h1 : n ≤ 9223372036854775807) :
    Calls Try.prog 48 #[.int .i64 n] w fun e w' => e = .returned (.string (lineS n)) ∧ Below w.heap.size w w' := by
  by_cases hn : n < 0
  · have HQ := Hd.mk (show lineS n = ⟨#[]⟩ by unfold lineS; rw [if_pos hn])
    go_enter Try.func48, Try.ntmps48
    go_wp2_with fail
    go_ret
    exact ⟨by rw [HQ.out]; rfl, Below.refl _ _⟩
  · have HQ := Hd.mk (show lineS n = ofL (hexL n) ++ ⟨#[13, 10]⟩ by unfold lineS; rw [if_neg hn])
    have hsz : (ofL (hexL n)).size ≤ 20 := by rw [ofL_size]; exact hexL_len n
    have hn2 : 0 ≤ n := by omega
    go_enter Try.func48, Try.ntmps48
    go_wp2_with fail
    refine (hextext_any _ _ h0 h1).mono ?_
    rintro e w1 ⟨rfl, hb1⟩
    go_wp2_with fail
    go_ret
    exact ⟨by rw [HQ.out]; rfl, hb1⟩

/-- P14.2: the sizes of the chunks. -/
def szL (each : Nat) : Nat → Nat → List Int
  | 0, _ => []
  | f + 1, n => if each < n then (each : Int) :: szL each f (n - each) else [(n : Int)]
theorem szL_more (each : Nat) (he : 1 ≤ each) : ∀ (f g n : Nat), n < f → n < g → szL each f n = szL each g n
  | 0, _, _, h, _ => by omega
  | _ + 1, 0, _, _, h => by omega
  | f + 1, g + 1, n, hf, hg => by
    unfold szL
    split
    · rw [szL_more each he f g (n - each) (by omega) (by omega)]
    · rfl
def sizesL (n each : Int) : List Int := if n < 1 ∨ 1048576 < n ∨ each < 1 then [] else szL each.toNat (n.toNat + 1) n.toNat
theorem szL_len (each : Nat) (he : 1 ≤ each) : ∀ (f n : Nat), n < f → (szL each f n).length ≤ n + 1
  | 0, _, h => by omega
  | f + 1, n, h => by
    unfold szL
    split
    · have := szL_len each he f (n - each) (by omega); simp; omega
    · simp

set_option maxRecDepth 100000 in
set_option maxHeartbeats 4000000 in
theorem sizes_any (n each : Int) (w : World) (h0 : -9223372036854775808 ≤ n) (h1 : n ≤ 9223372036854775807) (h2 : -9223372036854775808 ≤ each) (h3 : each ≤ 9223372036854775807) :
    Calls Try.prog 51 #[.int .i64 n, .int .i64 each] w fun e w' => ∃ v, e = .returned v ∧ w'.ownsRow w.heap.size 3 1 v (sizesL n each).length (iv (sizesL n each)) ∧ Below w.heap.size w w' := by
  by_cases hbad : n < 1 ∨ 1048576 < n ∨ each < 1
  · have HQ := Hd.mk (show sizesL n each = [] by unfold sizesL; rw [if_pos hbad])
    have hway : n < 1 ∨ (1 ≤ n ∧ 1048576 < n) ∨ (1 ≤ n ∧ n ≤ 1048576 ∧ each < 1) := by omega
    clear hbad
    rcases hway with hh | ⟨ha, hh⟩ | ⟨ha, hb, hh⟩
    all_goals
      go_enter Try.func51, Try.ntmps51
      go_wp2_with fail
      go_ret
      exact ⟨_, rfl, by rw [HQ.out]; exact World.ownsRow_nil _ _ _ _, Below.refl _ _⟩
  · obtain ⟨N, rfl⟩ : ∃ N : Nat, n = N := ⟨n.toNat, by omega⟩
    obtain ⟨E, rfl⟩ : ∃ E : Nat, each = E := ⟨each.toNat, by omega⟩
    have hN1 : 1 ≤ N := by omega
    have hN2 : N ≤ 1048576 := by omega
    have hE1 : 1 ≤ E := by omega
    have HQ := Hd.mk (show sizesL (N : Int) (E : Int) = szL E (N + 1) N by unfold sizesL; rw [if_neg hbad]; simp)
    have HLN := Hd.mk (szL_len E hE1 (N + 1) N (by omega))
    clear hbad
    go_enter Try.func51, Try.ntmps51
    go_wp2_with fail
    go_loopw [0, 5] (fun t v wr => ∃ (m : Nat) (l : List Int), t = .int .i64 m ∧ 1 ≤ m ∧ m + l.length ≤ N ∧ wr.ownsRow w.heap.size 3 1 v l.length (iv l) ∧ Below w.heap.size w wr ∧ szL E (N + 1) N = l ++ szL E (N + 1) m) (fun t _ _ => (intOf t).toNat)
    case atStart => exact ⟨N, [], rfl, hN1, by simp, World.ownsRow_nil _ _ _ _, Below.refl _ _, rfl⟩
    case round =>
      obtain ⟨m, l, rfl, hm1, hm2, hown, hbel, hsz⟩ := hrel
      have HB := Hd.mk hbel
      have HS := Hd.mk hsz
      have hw := hbel.size
      clear hbel hsz
      by_cases hlt : E < m
      · have HST := Hd.mk (show szL E (N + 1) m = (E : Int) :: szL E (N + 1) (m - E) by
          conv => lhs; unfold szL
          rw [if_pos hlt, szL_more E hE1 N (N + 1) (m - E) (by omega) (by omega)])
        go_wp2_with (at_builtin; refine app_int rfl _ _ _ _ rfl Try.underlying63 Try.infoI w.heap.size _ l rfl hown (E : Int) wr.heap.size rfl rfl (by omega) hw ?_; intro v' w' hown' hb' hg')
        go_roundw
        case rel => exact ⟨m - E, l ++ [(E : Int)], by go_num, by omega, by simp; omega, hown', HB.out.trans hb', by rw [HS.out, HST.out]; simp⟩
        case measure => simp [intOf]; omega
      · have HST := Hd.mk (show szL E (N + 1) m = [(m : Int)] by unfold szL; rw [if_neg hlt])
        go_wp2_with (at_builtin; refine app_int rfl _ _ _ _ rfl Try.underlying63 Try.infoI w.heap.size _ l rfl hown (m : Int) wr.heap.size rfl rfl (by omega) hw ?_; intro v' w' hown' hb' hg')
        go_ret
        refine ⟨_, rfl, ?_, HB.out.trans hb'⟩
        rw [HQ.out, HS.out, HST.out]; exact hown'

theorem ex14a : chkV ⟨#[49, 65, 59, 97, 61, 98]⟩ = 26 ∧ chkE ⟨#[49, 65, 59, 97, 61, 98]⟩ = 0 := by decide +kernel
theorem ex14b : sizesL 7 3 = [3, 3, 1] := by decide +kernel
theorem ex14c : lineS 255 = ⟨#[102, 102, 13, 10]⟩ := by decide +kernel
theorem rdi_three (w : World) (t : TypeId) : RdI (w.alloc (.cells #[.int .i64 3, .int .i64 3, .int .i64 1] t)) (.slice (some ⟨w.heap.size, 0, none⟩) 3 3) [3, 3, 1] := by
  refine .inr ⟨w.heap.size, 3, rfl, by decide, by simp, fun j hj => ?_⟩
  have hj2 : j < 3 := hj
  have : j = 0 ∨ j = 1 ∨ j = 2 := by omega
  rcases this with rfl | rfl | rfl
  all_goals
    rw [World.cell?_alloc_at _ _ _ _ rfl]
    rfl

set_option maxRecDepth 100000 in
set_option maxHeartbeats 4000000 in
theorem lives14_any (w : World) :
    Calls Try.prog 47 #[] w fun e w' => e = .returned (.bool true) ∧ Below w.heap.size w w' := by
  have EA := Hd.mk ex14a
  have EB := Hd.mk ex14b
  have EC := Hd.mk ex14c
  go_enter Try.func47, Try.ntmps47
  go_wp2_with fail
  refine (chk_parse _ _ (by decide)).mono ?_
  rintro e w1 ⟨rfl, hb1⟩
  rw [EA.out.1, EA.out.2]
  go_wp2_with fail
  refine (sizes_any 7 3 _ (by decide) (by decide) (by decide) (by decide)).mono ?_
  rintro e w2 ⟨v2, rfl, ho2, hb2⟩
  rw [EB.out] at ho2
  have HO2 := Hd.mk (RdI.of_own ho2)
  have HB2 := Hd.mk (below_thn hb1 hb2)
  have hz2 := HB2.out.size
  clear ho2 hb1 hb2
  go_wp2_with fail
  refine (sameints_eq _ _ [3, 3, 1] _ (HO2.out.below ((Below.refl _ _).alloc (Nat.le_refl _) _)) (rdi_three _ _) (by decide)).mono ?_
  rintro e w3 ⟨rfl, hb3⟩
  have HB3 := Hd.mk ((HB2.out.alloc hz2 _).trans (hb3.mono (by simp; omega)))
  clear hb3
  go_wp2_with fail
  refine (line_any _ _ (by decide) (by decide)).mono ?_
  rintro e w4 ⟨rfl, hb4⟩
  rw [EC.out]
  go_wp2_with fail
  go_ret
  exact ⟨ret_bool (by decide +kernel), below_thn HB3.out hb4⟩

set_option maxRecDepth 100000 in
set_option maxHeartbeats 4000000 in
theorem cparses_core (s x : ByteArray) (hc : Cut 1000 s x) (hs : s.size ≤ maxLen) (w : World) :
    Calls Try.prog 12 #[.string s] w fun e w' => e = .returned (.bool true) ∧ Below w.heap.size w w' := by
  have hL := hc.le
  unfold maxLen at hs
  rcases hc with ⟨hn, hx⟩ | ⟨hn, hx⟩
  all_goals
    have HX := Hd.mk hx
    clear hx
    go_enter Try.func12, Try.ntmps12
    go_wp2_with fail
    rw [← HX.out]
    refine (chk_parse _ _ (by omega)).mono ?_
    rintro e w1 ⟨rfl, hb1⟩
    go_wp2_with fail
    refine (rchk_parse _ _ (by omega)).mono ?_
    rintro e w2 ⟨rfl, hb2⟩
    go_wp2_with fail
    refine (lives14_any _).mono ?_
    rintro e w3 ⟨rfl, hb3⟩
    go_wp2_with fail
    go_ret
    exact ⟨rfl, below_thn (below_thn hb1 hb2) hb3⟩
theorem cparses_walk (s : ByteArray) (w : World) (hs : s.size ≤ maxLen) :
    Calls Try.prog 12 #[.string s] w fun e w' => e = .returned (.bool true) ∧ Below w.heap.size w w' := by
  obtain ⟨x, hx⟩ := cut_any 1000 s
  exact cparses_core s x hx hs w
end Go.Proofs.Ytjbadcfhhcmnoaa
