/- Pools (layer 40): Take, Old. -/
import Derived.Test.YtgogoncpnfojkaaTbe
namespace Go.Proofs.Ytgogoncpnfojkaa
open Go.RowKit
set_option linter.unusedVariables false
set_option linter.unusedSimpArgs false

theorem wrapT (n : Int) (h1 : -9223372036854775808 ≤ n) (h2 : n ≤ 9223372036854775807) : IntKind.i64.wrap n = n := by
  simp [IntKind.wrap, IntKind.signed, IntKind.bits, wrap64]
  split <;> omega
set_option maxRecDepth 100000 in
theorem fld_ent (p1 p2 : Int) (w : World) : (Instr.field 124 (.agg #[.int .i64 p1, .int .i64 p2]) 1).run Try.prog w = .ok (.int .i64 p2) w := by
  first
    | rfl
    | (simp [Instr.field, go_sem, run_underlying Try.underlying124, Try.sizeOf3, Try.isAgg3]; done)
    | (simp [Instr.field, go_sem, run_underlying Try.underlying124]; trace_state; sorry)
def tkN (L : List Ent) (k : Int) : Nat → Option Nat
  | 0 => none
  | m + 1 => if (L.getD m (0, 0)).1 = k then some m else tkN L k m
def tkL (L : List Ent) (k : Int) : List Ent := match tkN L k L.length with | none => L | some i => L.take i ++ L.drop (i + 1)
def tkX (L : List Ent) (k : Int) : Int := match tkN L k L.length with | none => 0 | some i => (L.getD i (0, 0)).2
def tkB (L : List Ent) (k : Int) : Bool := (tkN L k L.length).isSome
theorem tk_none {L : List Ent} {k : Int} (h : tkN L k L.length = none) : tkL L k = L ∧ tkX L k = 0 ∧ tkB L k = false := by unfold tkL tkX tkB; rw [h]; exact ⟨rfl, rfl, rfl⟩
theorem tk_hit {L : List Ent} {k : Int} {i : Nat} (h : tkN L k L.length = some i) (hi : i < L.length) : tkL L k = L.take i ++ L.drop (i + 1) ∧ tkX L k = L[i].2 ∧ tkB L k = true := by
  unfold tkL tkX tkB
  rw [h]
  exact ⟨rfl, by simp [List.getD, hi], rfl⟩
theorem tkN_step {L : List Ent} {k : Int} {i : Nat} (hi : i < L.length) : tkN L k (i + 1) = if L[i].1 = k then some i else tkN L k i := by
  have e : (L.getD i (0, 0)) = L[i] := by simp [List.getD, hi]
  show (if (L.getD i (0, 0)).1 = k then some i else tkN L k i) = _
  rw [e]
set_option maxRecDepth 100000 in
set_option maxHeartbeats 2000000 in
theorem ptake_any (b : Nat) (v : Value) (L : List Ent) (k : Int) (w : World) (h : PB b v L w) (hl : L.length ≤ 1000) :
    Calls Try.prog 17 #[.pointer (some ⟨b, 0, none⟩), .int .i64 k] w (OutP (.tuple #[.int .i64 (tkX L k), .bool (tkB L k)]) b v (tkL L k) w) := by
  have H := Kp.mk h
  have HLN := Kp.mk (fun w h => plen_any b v L w h)
  have HT0 := Kp.mk (tk_none (L := L) (k := k))
  have HT1 := Kp.mk (fun i => tk_hit (L := L) (k := k) (i := i))
  have HO := Kp.mk (fun i hi => pout_any b v L i w h hi hl)
  have hw0 : IntKind.i64.wrap ((L.length : Int) - 1) = (L.length : Int) - 1 := wrapT _ (by omega) (by omega)
  unfold OutP at HO ⊢
  clear h
  generalize tkL L k = TL at *
  generalize tkX L k = TX at *
  generalize tkB L k = TB at *
  go_enter Try.func17, Try.ntmps17
  go_wp2_with fail
  refine (HLN.out _ H.out).mono ?_
  rintro e w1 ⟨rfl, rfl⟩
  go_wp2_with fail
  go_loopw [4, 6] (fun z i wr => z = .int .i64 0 ∧ ∃ m : Nat, m ≤ L.length ∧ i = .int .i64 ((m : Int) - 1) ∧ tkN L k L.length = tkN L k m ∧ wr = w) (fun _ i _ => (intOf i + 1).toNat)
  case atStart => exact ⟨rfl, L.length, Nat.le_refl _, rfl, rfl, rfl⟩
  case round =>
    obtain ⟨rfl, m, hm, rfl, hT, rfl⟩ := hrel
    have HT := Kp.mk hT
    clear hT
    rcases m with _ | i
    · go_wp2_with fail
      go_ret2
      obtain ⟨q1, q2, q3⟩ := HT0.out (HT.out.trans rfl)
      exact ⟨_, by rw [q2, q3]; rfl, by rw [q1]; exact H.out, Onl.refl _ _ _, Nxt.refl _ _⟩
    · rw [show (((i + 1 : Nat) : Int) - 1) = (i : Int) by omega]
      have hi : i < L.length := by omega
      have hat := enL_at hi
      obtain ⟨g, c, rfl, hg⟩ := H.out.some (by omega)
      have c0 := blk_cell (i := 0) H.out.hb rfl
      have c1 := own_cells H.out.hr hat.1
      have hwi : IntKind.i64.wrap ((i : Int) - 1) = (i : Int) - 1 := wrapT _ (by omega) (by omega)
      have hii : (i : Int) < (L.length : Int) := by omega
      have hi0 : (0 : Int) ≤ (i : Int) := by omega
      have HS := Kp.mk (HT.out.trans (tkN_step (k := k) hi))
      have HH := Kp.mk (fun q => HT1.out i q hi)
      replace HO := Kp.mk (HO.out i hi)
      clear hat
      generalize L[i] = p at *
      obtain ⟨p1, p2⟩ := p
      dsimp only at c1
      by_cases hp : p1 = k
      · subst hp
        have HS2 := Kp.mk (HS.out.trans (if_pos rfl))
        go_wp2_with fail
        refine HO.out.mono ?_
        rintro e w2 ⟨v2, rfl, h1, h2, h3⟩
        have R1 := Kp.mk h1
        have R2 := Kp.mk h2
        have R3 := Kp.mk h3
        clear h1 h2 h3
        go_wp2_with fail
        rw [fld_ent]
        simp only [Result.andThen]
        rw [Oper.upon_value]
        go_wp2_with fail
        go_ret2
        obtain ⟨q1, q2, q3⟩ := HH.out HS2.out
        exact ⟨_, by rw [q2, q3]; rfl, by rw [q1]; exact R1.out, R2.out, R3.out⟩
      · have HS2 := Kp.mk (HS.out.trans (if_neg hp))
        have hp2 : (p1 == k) = false := by rw [beq_eq_false_iff_ne]; exact hp
        go_wp2_with fail
        go_roundw
        case rel => exact ⟨by first | rfl | trivial, i, by omega, by first | rfl | rw [hwi], HS2.out, by first | rfl | trivial⟩
        case measure => (try rw [hwi]); simp [intOf] <;> omega
set_option maxRecDepth 100000 in
set_option maxHeartbeats 2000000 in
theorem pold_any (b : Nat) (v : Value) (L : List Ent) (w : World) (h : PB b v L w) (hl : L.length ≤ 1000) :
    Calls Try.prog 19 #[.pointer (some ⟨b, 0, none⟩)] w (OutP (.tuple #[.int .i64 (L.getD 0 (0, 0)).1, .int .i64 (L.getD 0 (0, 0)).2, .bool (decide (0 < L.length))]) b v (L.drop 1) w) := by
  have H := Kp.mk h
  have HLN := Kp.mk (fun w h => plen_any b v L w h)
  have HO := Kp.mk (fun hi => pout_any b v L 0 w h hi hl)
  unfold OutP at HO ⊢
  clear h
  rcases L with _ | ⟨⟨p1, p2⟩, L⟩
  · go_enter Try.func19, Try.ntmps19
    go_wp2_with fail
    refine (HLN.out _ H.out).mono ?_
    rintro e w1 ⟨rfl, rfl⟩
    go_wp2_with fail
    go_ret3
    exact ⟨_, rfl, H.out, Onl.refl _ _ _, Nxt.refl _ _⟩
  · replace HO := Kp.mk (HO.out (by simp))
    have hln : ((((p1, p2) :: L).length : Nat) : Int) = (L.length : Int) + 1 := by simp
    have hne : ¬ ((L.length : Int) + 1 = 0) := by omega
    have hne2 : (((L.length : Int) + 1) == 0) = false := by rw [beq_eq_false_iff_ne]; exact hne
    rw [hln] at HLN
    rw [show decide (0 < ((p1, p2) :: L).length) = true from by simp, show (((p1, p2) :: L).getD 0 (0, 0)).1 = p1 from rfl, show (((p1, p2) :: L).getD 0 (0, 0)).2 = p2 from rfl]
    go_enter Try.func19, Try.ntmps19
    go_wp2_with fail
    refine (HLN.out _ H.out).mono ?_
    rintro e w1 ⟨rfl, rfl⟩
    go_wp2_with fail
    refine HO.out.mono ?_
    rintro e w2 ⟨v2, rfl, h1, h2, h3⟩
    have R1 := Kp.mk h1
    have R2 := Kp.mk h2
    have R3 := Kp.mk h3
    clear h1 h2 h3
    have k1 := heap_alloc_new w2 (.cells #[.int .i64 p1, .int .i64 p2] 124)
    have k2 := blk_cell (i := 0) k1 rfl
    have k3 := blk_cell (i := 1) k1 rfl
    have k4 := blk_free (i := 0) k1
    go_wp2_with fail
    go_region
    all_goals go_wp2_with fail
    all_goals go_ret3
    all_goals
      have K1 := R2.out.alloc (.cells #[.int .i64 p1, .int .i64 p2] 124)
      exact ⟨v2, rfl, ⟨blk_alloc R1.out.hb, R1.out.hr.alloc _⟩, ⟨K1.os, K1.tape, K1.output, K1.size, K1.block⟩, R3.out⟩
end Go.Proofs.Ytgogoncpnfojkaa
