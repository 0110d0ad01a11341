/- Tally (layer 49): the range over Rows, at ints (bin/mktlj.py). -/
import Derived.Test.YtocnecbhpofdgaaTli
namespace Go.Proofs.Ytocnecbhpofdgaa
open Go.RowKit Go.Shelf Go.Lib Go.Sort
set_option linter.unusedVariables false
set_option linter.unusedSimpArgs false

/-- What the rows are: each once, rising, just those that are counted. -/
def SoLi (F : Int → Int) (n : Nat) (L : List Ri) : Prop :=
  L.length ≤ n ∧ (L.map (·.1)).Nodup ∧ L.Pairwise (fun p q => ltOf RiC q p = false) ∧ (∀ p ∈ L, (Lit.int .i64 p.1).wf = true ∧ F p.1 = p.2 ∧ 0 < p.2) ∧ ∀ x : Int, (Lit.int .i64 x).wf = true → 0 < F x → x ∈ L.map (·.1)
def rowEi (x : Ri) : Array Value := #[.int .i64 x.1, .int .i64 x.2]
set_option maxRecDepth 100000 in
set_option maxHeartbeats 2000000 in
theorem tri_seqP (n l bs N : Nat) (po : Option Addr) (F : Int → Int) (Gx : Nat → Obj → Prop) (W : World) (hS : Calls Try.prog 41 #[.pointer po] W (Soi F N W)) (hN : N ≤ 1000) (hc : W.heap[bs]? = some (.cells #[.pointer po] 42 (0, 0))) (hG2 : ∀ k cur, W.heap.size ≤ k → Gx k (.cells cur 81 (0, 0))) :
    SeqO Fence.wide n Try.prog 40 #[.pointer (some ⟨bs, 0, none⟩)] rowEi Gx W.heap.size (SoLi F N) (fun pre => ∃ L, SoLi F N L ∧ pre <+: L) (N + 1) l W := by
  intro J Jx hJ hJx hY h0
  have HJ := Kp.mk hJ
  have HY := Kp.mk hY
  have H0 := Kp.mk h0
  have HG2 := Kp.mk hG2
  have HSO := Kp.mk hS
  have c0 := blk_cell (i := 0) hc rfl
  clear hJ hJx hY hc h0 hG2 hS
  refine callsIn_of_wp Try.func40 rfl trivial ?_ rfl
  simp only [Try.ntmps40, List.size_toArray, List.length_cons, List.length_nil, Nat.reduceAdd, Nat.reduceSub, Array.replicate_succ, Array.replicate_zero, List.push_toArray, List.append_toArray, List.nil_append, List.cons_append]
  generalize hH : W.heap.size = H at *
  gi_wp2_with fail
  refine ⟨trivial, fun h => by simp [Fence.wide] at h, (callsIn_wide.2 HSO.out).mono ?_⟩
  rintro e w1 ⟨v, L, rfl, ho, hb, s1, s2, s3, s4, s5⟩
  rw [hH] at ho hb
  have HL := Kp.mk (show SoLi F N L from ⟨s1, s2, s3, s4, s5⟩)
  have HLN := Kp.mk s1
  have HO := Kp.mk ho
  obtain ⟨av, cv, rfl⟩ := own_lenT ho
  have H1 := Kp.mk (HJ.out _ _ _ H0.out (Kpt.of (by rw [hH]; exact hb)))
  have HS1 := Kp.mk (show H ≤ w1.heap.size by have := hb.size; omega)
  clear ho hb s1 s2 s3 s4 s5 c0 HSO
  have hll : L.length ≤ 1000 := by have := HLN.out; omega
  gi_wp2_with fail
  gi_loopw [8] (fun i wr => ∃ k : Nat, k ≤ L.length ∧ i = .int .i64 k ∧ J (L.take k) wr ∧ wr.ownsRow H 81 2 (.slice av L.length cv) L.length (L.flatMap RiE) ∧ H ≤ wr.heap.size) (fun i _ => L.length - (intOf i).toNat)
  case atStart => exact ⟨0, by omega, rfl, by rw [List.take_zero]; exact H1.out, HO.out, HS1.out⟩
  case round =>
    obtain ⟨k, hk, rfl, hj, hr, hz⟩ := hrel
    have H2 := Kp.mk hj
    have HR := Kp.mk hr
    have HSZ := Kp.mk hz
    clear hj hr hz
    by_cases hlt : k < L.length
    · obtain ⟨g, rfl⟩ := own_formT HR.out (by omega)
      have c1 : wr.cell? ⟨g, k * 2, none⟩ = some (.int .i64 L[k].1) := own_cellT HR.out (flat_at (f := RiE) (sz := 2) RiE_len L k hlt 0 (by omega))
      have c2 : wr.cell? ⟨g, k * 2 + 1, none⟩ = some (.int .i64 L[k].2) := own_cellT HR.out (flat_at (f := RiE) (sz := 2) RiE_len L k hlt 1 (by omega))
      have q0 : (0 : Int) ≤ (k : Int) := by omega
      have q1 : (k : Int) < (L.length : Int) := by omega
      have HST := Kp.mk (show L.take (k + 1) = L.take k ++ [L[k]] from List.take_succ_eq_append_getElem hlt)
      have HPL := Kp.mk (show (L.take k).length < N + 1 by rw [List.length_take]; have := HLN.out; omega)
      have HPX := Kp.mk (show L.take (k + 1) <+: L from List.take_prefix _ _)
      generalize L[k] = f at *
      obtain ⟨x, m⟩ := f
      dsimp only at c1 c2
      have hbn := (Below.refl wr.heap.size wr).alloc (Nat.le_refl _) (.cells #[.int .i64 x, .int .i64 m] 81)
      have H3 := Kp.mk (HJ.out _ _ _ H2.out (Kpt.of hbn))
      have HR3 := Kp.mk (HR.out.alloc (.cells #[.int .i64 x, .int .i64 m] 81))
      have HS3 := Kp.mk (show H ≤ (wr.alloc (.cells #[.int .i64 x, .int .i64 m] 81)).heap.size by have := HSZ.out; have := hbn.size; omega)
      obtain ⟨fn, tmps, assign, body, hy, hR⟩ := HY.out (L.take k) (x, m) _ H3.out HPL.out HS3.out
      rw [← HST.out] at hR
      dsimp only [rowEi] at hy
      clear hbn
      gi_wp2_with fail
      refine ⟨fun h => by simp [Fence.wide] at h, hR.mono ?_⟩
      rintro e w4 (⟨rfl, hj4, hk4⟩ | ⟨rfl, hx4⟩)
      · have H5 := Kp.mk hj4
        have HR5 := Kp.mk (own_keepO HR3.out hk4 fun q cur hq => HG2.out q cur hq)
        have HS5 := Kp.mk (Nat.le_trans HS3.out hk4.size)
        clear hk4 hj4 hy hR c1 c2
        gi_wp2_with fail
        go_roundw
        case rel => exact ⟨k + 1, by omega, by go_num, H5.out, HR5.out, HS5.out⟩
        case measure => simp [intOf]; omega
      · have HX4 := Kp.mk hx4
        clear hx4 hy hR
        gi_wp2_with fail
        refine bodyPost_ret (results_none rfl _ _ _) rfl ?_
        exact ⟨⟨_, rfl⟩, .inr ⟨_, ⟨L, HL.out, HPX.out⟩, HX4.out⟩⟩
    · have hkn : k = L.length := by omega
      subst hkn
      have HJ9 := Kp.mk (show J L wr by have := H2.out; rwa [List.take_length] at this)
      gi_wp2_with fail
      go_end0
      exact ⟨⟨_, rfl⟩, .inl ⟨L, HL.out, HJ9.out⟩⟩
theorem tri_seq (n l bs B b N : Nat) (F : Int → Int) (Gx : Nat → Obj → Prop) (W : World) (h : Tyi B b N F W) (hN : N ≤ 1000) (hc : W.heap[bs]? = some (.cells #[.pointer (some ⟨b, 0, none⟩)] 42 (0, 0))) (hG2 : ∀ k cur, W.heap.size ≤ k → Gx k (.cells cur 81 (0, 0))) :
    SeqO Fence.wide n Try.prog 40 #[.pointer (some ⟨bs, 0, none⟩)] rowEi Gx W.heap.size (SoLi F N) (fun pre => ∃ L, SoLi F N L ∧ pre <+: L) (N + 1) l W :=
  tri_seqP n l bs N _ F Gx W (tsorti_any B b N F W h hN) hN hc hG2
end Go.Proofs.Ytocnecbhpofdgaa
