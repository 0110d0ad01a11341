/- Tally (layer 49): Fields, Methods, Statuses: the document's rows. -/
import Derived.Test.YtocnecbhpofdgaaTlp
import Derived.Test.YtocnecbhpofdgaaTlk
namespace Go.Proofs.Ytocnecbhpofdgaa
open Go.RowKit Go.Sort Go.Shelf
set_option linter.unusedVariables false
set_option linter.unusedSimpArgs false

def RetRk (K : List ByteArray) (w : World) (e : Ending) (w' : World) : Prop := ∃ u, e = .returned u ∧ w'.ownsRow w.heap.size 57 2 u (cntF K).length ((cntF K).flatMap encSrw) ∧ Below w.heap.size w w'
theorem rk_keys {K : List ByteArray} {B b n : Nat} {w W : World} (hK : ∀ x ∈ K, x.size ≤ maxLen) (hn : n ≤ 1000) (hT : Tys B b n (ctB K) W) (hb : Below w.heap.size w W) :
    Calls Try.prog 35 #[.pointer (some ⟨b, 0, none⟩)] W fun e w' => ∃ u, e = .returned u ∧ w'.ownsRow w.heap.size 57 2 u (cntF K).length ((cntF K).flatMap encSrw) ∧ Below w.heap.size w w' := by
  refine (tranked_any B b n (ctB K) W hT hn).mono ?_
  rintro e w' ⟨v, L, rfl, hs, ho, hb2⟩
  have e1 : isrt (ltOf rkC) L = cntF K := rkD_of hK hs
  have e2 : (cntF K).length = L.length := by rw [← e1, isrt_length]
  refine ⟨v, rfl, ?_, hb.trans (hb2.mono hb.size)⟩
  rw [e2, ← e1]
  exact own_upT1 ho hb.size
theorem tfields_any (v : Value) (l : List Fld) (w : World) (hv : RdF w v l) (hz : ∀ p ∈ l, FldSm p) (hl : l.length ≤ 1000) :
    Calls Try.prog 11 #[v] w (RetRk (keysT l) w) :=
  tfields_of v l w hv hz hl _ fun W hT hb => rk_keys (fun x hx => size_maxL (by have := keysT_sz hz x hx; omega)) hl hT hb
theorem tmeths_any (v : Value) (l : List Msg) (w : World) (hv : RdM w v l) (hz : ∀ x ∈ l, MsgSm x) (hl : l.length ≤ 1000) :
    Calls Try.prog 13 #[v] w (RetRk (keysM true l) w) :=
  tmeths_of v l w hv hz hl _ fun W hT hb => rk_keys (fun x hx => size_maxL (by have := keysM_sz hz x hx; omega)) hl hT hb
theorem tstats_any (v : Value) (l : List Msg) (w : World) (hv : RdM w v l) (hz : ∀ x ∈ l, MsgSm x) (hl : l.length ≤ 1000) :
    Calls Try.prog 15 #[v] w (RetRk (keysM false l) w) :=
  tstats_of v l w hv hz hl _ fun W hT hb => rk_keys (fun x hx => size_maxL (by have := keysM_sz hz x hx; omega)) hl hT hb
/-- Rows as a list. -/
abbrev RdRk (w : World) (v : Value) (l : List Srw) : Prop := RdL encSrw 2 w v l
theorem rk_cells {w : World} {a : Option Addr} {c n : Nat} {l : List Srw} (h : RdRk w (.slice a n c) l) (h0 : 0 < l.length) : ∃ b o, a = some ⟨b, o, none⟩ ∧ b < w.heap.size ∧ ∀ (j : Nat) (h : j < l.length), w.cell? ⟨b, o + j * 2, none⟩ = some (.string l[j].1) ∧ w.cell? ⟨b, o + j * 2 + 1, none⟩ = some (.int .i64 l[j].2) := by
  obtain ⟨a', c', h1, h2, h3, h4⟩ := h
  cases h1
  obtain ⟨b, o, g1, g2, g3⟩ := h4 h0
  exact ⟨b, o, g1, g2, fun j hj => ⟨g3 j hj 0 (by omega), g3 j hj 1 (by omega)⟩⟩
set_option maxRecDepth 100000 in
set_option maxHeartbeats 2000000 in
theorem tsame_any (v1 v2 : Value) (l : List Srw) (w : World) (h1 : RdRk w v1 l) (h2 : RdRk w v2 l) (hl : l.length ≤ 100000) :
    Calls Try.prog 10 #[v1, v2] w fun e w' => e = .returned (.bool true) ∧ Below w.heap.size w w' := by
  have H1 := Kp.mk h1
  have H2 := Kp.mk h2
  obtain ⟨a1, c1, rfl, -, -, -⟩ := h1
  obtain ⟨a2, c2, rfl, -, -, -⟩ := h2
  have HB := Kp.mk (Below.refl w.heap.size w)
  go_enter Try.func10, Try.ntmps10
  go_wp2_with fail
  go_loopw [13] (fun vi wr => ∃ k : Nat, k ≤ l.length ∧ vi = .int .i64 k ∧ Below w.heap.size w wr) (fun vi _ => l.length - (intOf vi).toNat)
  case atStart => exact ⟨0, Nat.zero_le _, rfl, HB.out⟩
  case round =>
    obtain ⟨k, hk, rfl, hb⟩ := hrel
    have HBK := Kp.mk hb
    have hszk := hb.size
    clear hb
    by_cases hlt : k < l.length
    · obtain ⟨b1, o1, rfl, -, d1⟩ := rk_cells (H1.out.below HBK.out) (by omega)
      obtain ⟨b2, o2, rfl, -, d2⟩ := rk_cells (H2.out.below HBK.out) (by omega)
      obtain ⟨c1, c2⟩ := d1 k hlt
      obtain ⟨c3, c4⟩ := d2 k hlt
      clear d1 d2
      generalize l[k].1 = x at *
      generalize l[k].2 = y at *
      have q1 : (k : Int) < (l.length : Int) := by omega
      have q0 : (0 : Int) ≤ (k : Int) := by omega
      go_wp2_with fail
      go_quiet (fail)
      have HBQ := Kp.mk (HBK.out.trans ((gdrewN wr nq).mono hszk))
      go_wp2_with fail
      go_roundw
      case rel => exact ⟨k + 1, by omega, by go_num, HBQ.out⟩
      case measure => simp [intOf]; omega
    · go_wp2_with fail
      go_ret
      exact ⟨rfl, HBK.out⟩
end Go.Proofs.Ytocnecbhpofdgaa
