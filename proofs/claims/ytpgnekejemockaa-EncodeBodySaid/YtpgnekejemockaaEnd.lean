/- Bodies (layer 25): fits, and the parts told one by one. -/
import Derived.Test.YtpgnekejemockaaEnc
import Derived.Test.YtpgnekejemockaaRfp
import Derived.OwnWalkIn
import Derived.TacticsInMore
import Derived.LoopNIn
import Derived.LoopIn
namespace Go.Proofs.Ytpgnekejemockaa
open Go.RowKit
set_option linter.unusedVariables false
set_option linter.unusedSimpArgs false
attribute [local go_sem] Oper.semAt_some

def intC (n : Int) : List Value := [.int .i64 n]
abbrev RdZ (w : World) (v : Value) (l : List Int) : Prop := RdL intC 1 w v l
theorem rdz_cells {w : World} {a : Option Addr} {c n : Nat} {l : List Int} (h : RdZ w (.slice a n c) l) (h0 : 0 < l.length) : ∃ b o, a = some ⟨b, o, none⟩ ∧ b < w.heap.size ∧ ∀ (j : Nat) (h : j < l.length), w.cell? ⟨b, o + j, none⟩ = some (.int .i64 l[j]) := by
  obtain ⟨a', c', h1, h2, h3, h4⟩ := h
  cases h1
  obtain ⟨b, o, g1, g2, g3⟩ := h4 h0
  exact ⟨b, o, g1, g2, fun j hj => by have := g3 j hj 0 (by omega); simpa [intC] using this⟩
theorem cutOk_drop : ∀ {l : List Int} {left : Int} {k : Nat} (h : k < l.length), cutOk (l.drop k) left = (decide (1 ≤ l[k]) && decide (l[k] ≤ left) && cutOk (l.drop (k + 1)) (left - l[k])) := by
  intro l left k h
  rw [List.drop_eq_getElem_cons h]
  rfl
set_option maxRecDepth 100000 in
set_option maxHeartbeats 2000000 in
theorem efits_any (kind ln : Int) (v : Value) (l : List Int) (s : ByteArray) (w : World) (hv : RdZ w v l) (hl : l.length ≤ 300) (hs : s.size ≤ 2000) :
    Calls Try.prog 44 #[.agg #[.int .i64 kind, .int .i64 ln], v, .string s] w fun e w' => e = .returned (.bool (fitB kind ln l s)) ∧ Below w.heap.size w w' := by
  have HV := Kp.mk hv
  obtain ⟨a, c, rfl, -, -, -⟩ := hv
  have HB := Kp.mk ((Below.refl w.heap.size w).alloc (Nat.le_refl _) (.cells #[.int .i64 kind, .int .i64 ln] 47))
  have HQ := Kp.mk (show fitB kind ln l s = if ln < 0 then false else if kind = 0 then decide (s.size = 0) else if kind = 1 then decide (ln = (s.size : Int)) else if kind = 2 then cutOk l (s.size : Int) else decide (kind = 3) from rfl)
  generalize fitB kind ln l s = R at *
  by_cases h0 : ln < 0
  · have hR := HQ.out.trans (if_pos h0)
    subst hR
    go_enter Try.func44, Try.ntmps44
    go_wp2_with fail
    go_ret
    exact ⟨rfl, HB.out⟩
  · have hQ1 := HQ.out.trans (if_neg h0)
    by_cases h1 : kind = 0
    · have hR := hQ1.trans (if_pos h1)
      subst h1
      by_cases hz : s.size = 0
      · rw [decide_eq_true hz] at hR
        subst hR
        have he : s = ⟨#[]⟩ := (ByteArray.size_eq_zero_iff.1 hz).trans rfl
        subst he
        clear hQ1 HQ
        go_enter Try.func44, Try.ntmps44
        go_wp2_with fail
        go_ret
        exact ⟨rfl, HB.out⟩
      · rw [decide_eq_false hz] at hR
        subst hR
        have hx2 : ¬ s.toList = [] := fun e => hz (by rw [ba_size', ← ByteArray.toList_eq, e]; rfl)
        have hx3 : s.toList.isEmpty = false := by rw [List.isEmpty_eq_false_iff]; exact hx2
        clear hQ1 HQ
        go_enter Try.func44, Try.ntmps44
        go_wp2_with fail
        go_ret
        exact ⟨by simp [hx3], HB.out⟩
    · have hQ2 := hQ1.trans (if_neg h1)
      have t0 : (kind == 0) = false := by rw [beq_eq_false_iff_ne]; exact h1
      by_cases h2 : kind = 1
      · have hR := hQ2.trans (if_pos h2)
        subst h2
        by_cases hz : ln = (s.size : Int)
        · rw [decide_eq_true hz] at hR
          subst hR
          subst hz
          clear hQ1 hQ2 HQ
          go_enter Try.func44, Try.ntmps44
          go_wp2_with fail
          go_ret
          exact ⟨by simp, HB.out⟩
        · rw [decide_eq_false hz] at hR
          subst hR
          have t1 : (ln == (s.size : Int)) = false := by rw [beq_eq_false_iff_ne]; exact hz
          clear hQ1 hQ2 HQ
          go_enter Try.func44, Try.ntmps44
          go_wp2_with fail
          go_ret
          exact ⟨by simp [t1], HB.out⟩
      · have hQ3 := hQ2.trans (if_neg h2)
        have t2 : (kind == 1) = false := by rw [beq_eq_false_iff_ne]; exact h2
        by_cases h3 : kind = 2
        · have hR := hQ3.trans (if_pos h3)
          subst h3
          have HR := Kp.mk hR
          clear hQ1 hQ2 hQ3 HQ hR t0 t2 h1 h2
          go_enter Try.func44, Try.ntmps44
          go_wp2_with fail
          go_loopw [7, 37] (fun vl vi wr => ∃ (k : Nat) (left : Int), k ≤ l.length ∧ vi = .int .i64 k ∧ vl = .int .i64 left ∧ 0 ≤ left ∧ left ≤ 2000 ∧ R = cutOk (l.drop k) left ∧ Below w.heap.size w wr) (fun _ vi _ => l.length - (intOf vi).toNat)
          case atStart => exact ⟨0, (s.size : Int), Nat.zero_le _, rfl, rfl, by omega, by omega, HR.out, HB.out⟩
          case round =>
            obtain ⟨k, left, hk, rfl, rfl, hl0, hl1, hr, hb⟩ := hrel
            have HRK := Kp.mk hr
            have HBK := Kp.mk hb
            clear hr hb
            by_cases hlt : k < l.length
            · obtain ⟨b, o, rfl, hbl, d⟩ := rdz_cells (HV.out.below HBK.out) (by omega)
              have d1 := d k hlt
              have HCD := Kp.mk (cutOk_drop (left := left) hlt)
              clear d
              generalize l[k] = n at *
              have q1 : (k : Int) < (l.length : Int) := by omega
              have q0 : (0 : Int) ≤ (k : Int) := by omega
              by_cases hn1 : n < 1
              · have hr2 : R = false := by rw [HRK.out, HCD.out, decide_eq_false (by omega)]; rfl
                subst hr2
                go_wp2_with fail
                go_ret
                exact ⟨rfl, HBK.out⟩
              · by_cases hn2 : left < n
                · have hr2 : R = false := by rw [HRK.out, HCD.out, decide_eq_false (show ¬ n ≤ left by omega), Bool.and_false]; rfl
                  subst hr2
                  go_wp2_with fail
                  go_ret
                  exact ⟨rfl, HBK.out⟩
                · have HR2 := Kp.mk (show R = cutOk (l.drop (k + 1)) (left - n) by rw [HRK.out, HCD.out, decide_eq_true (show 1 ≤ n by omega), decide_eq_true (show n ≤ left by omega)]; rfl)
                  go_wp2_with fail
                  go_roundw
                  case rel => exact ⟨k + 1, left - n, by omega, by go_num, rfl, by omega, by omega, HR2.out, HBK.out⟩
                  case measure => simp [intOf]; omega
            · have hr2 : R = decide (left = 0) := by rw [HRK.out, List.drop_of_length_le (by omega)]; rfl
              by_cases hz : left = 0
              · subst hz
                rw [decide_eq_true rfl] at hr2
                subst hr2
                go_wp2_with fail
                go_ret
                exact ⟨rfl, HBK.out⟩
              · rw [decide_eq_false hz] at hr2
                subst hr2
                have t3 : (left == 0) = false := by rw [beq_eq_false_iff_ne]; exact hz
                go_wp2_with fail
                go_ret
                exact ⟨by simp [t3], HBK.out⟩
        · have hQ4 := hQ3.trans (if_neg h3)
          have t4 : (kind == 2) = false := by rw [beq_eq_false_iff_ne]; exact h3
          by_cases h5 : kind = 3
          · subst h5
            have hR : R = true := hQ4
            subst hR
            clear hQ1 hQ2 hQ3 hQ4 HQ
            go_enter Try.func44, Try.ntmps44
            go_wp2_with fail
            go_ret
            exact ⟨rfl, HB.out⟩
          · rw [decide_eq_false h5] at hQ4
            subst hQ4
            have t5 : (kind == 3) = false := by rw [beq_eq_false_iff_ne]; exact h5
            clear hQ1 hQ2 hQ3 HQ
            go_enter Try.func44, Try.ntmps44
            go_wp2_with fail
            go_ret
            exact ⟨by simp [t5], HB.out⟩
theorem cut_any (s : ByteArray) (v : Value) (w : World) (hv : ∃ a n c, v = .slice a n c) : Calls Try.prog 46 #[.string s, v] w fun e w' =>
    e = .returned (.func (.func 78) #[] #[.pointer (some ⟨w.heap.size + 1, 0, none⟩), .pointer (some ⟨w.heap.size, 0, none⟩)]) ∧ w' = (w.alloc (.cells #[.string s] 9)).alloc (.cells #[v] 38) := by
  obtain ⟨a, n, c, rfl⟩ := hv
  go_enter Try.func46, Try.ntmps46
  go_wp2_with fail
  go_ret
  exact ⟨rfl, rfl⟩
def cutE (x : ByteArray) : Array Value := #[.string x]
theorem cutL_step {s : ByteArray} {l : List Int} {k : Nat} (h : k < l.length) (hp : ∀ x ∈ l, 0 ≤ x) : cutL s 0 (l.take (k + 1)) = cutL s 0 (l.take k) ++ [s.extract (sumZ (l.take k)).toNat ((sumZ (l.take k)).toNat + l[k].toNat)] := by
  rw [List.take_succ_eq_append_getElem h, cutL_snoc s (l.take k) 0 l[k] fun x hx => hp x (List.mem_of_mem_take hx), Nat.zero_add]
theorem cutL_len (s : ByteArray) : ∀ (l : List Int) (k : Nat), (cutL s k l).length = l.length
  | [], k => rfl
  | n :: l, k => by simp [cutL, cutL_len s l]
theorem cutL_pre {s : ByteArray} {l : List Int} (hp : ∀ x ∈ l, 0 ≤ x) : ∀ k, k ≤ l.length → cutL s 0 (l.take k) <+: cutL s 0 l := by
  intro k hk
  have : ∀ j, k + j ≤ l.length → cutL s 0 (l.take k) <+: cutL s 0 (l.take (k + j)) := by
    intro j
    induction j with
    | zero => intro _; exact List.prefix_refl _
    | succ j ih =>
      intro hj
      have h1 := ih (by omega)
      rw [show k + (j + 1) = (k + j) + 1 by omega, cutL_step (by omega) hp]
      exact h1.trans (List.prefix_append _ _)
  have h := this (l.length - k) (by omega)
  rwa [show k + (l.length - k) = l.length by omega, List.take_length] at h
theorem cutOk_pos {l : List Int} : ∀ {left : Int}, cutOk l left = true → ∀ x ∈ l, 0 ≤ x := by
  induction l with
  | nil => intro left h x hx; cases hx
  | cons n t ih =>
    intro left h x hx
    simp [cutOk] at h
    rcases List.mem_cons.1 hx with rfl | hx
    · omega
    · exact ih h.2 x hx
set_option maxRecDepth 100000 in
set_option maxHeartbeats 2000000 in
theorem cut_seq (n ll bs bz : Nat) (s : ByteArray) (v : Value) (l : List Int) (Gx : Nat → Prop) (W : World) (hv : RdZ W v l) (hok : cutOk l (s.size : Int) = true) (hl : l.length ≤ 300) (hs : s.size ≤ 2000)
    (hG1 : Gx bs) (hG2 : Gx bz) (hGv : 0 < l.length → ∀ k, v.ownBlock = some k → Gx k)
    (hc1 : W.heap[bs]? = some (.cells #[.string s] 9 (0, 0))) (hc2 : W.heap[bz]? = some (.cells #[v] 38 (0, 0))) (hlt1 : bs < W.heap.size) (hlt2 : bz < W.heap.size) :
    SeqP Fence.wide n Try.prog 78 #[.pointer (some ⟨bz, 0, none⟩), .pointer (some ⟨bs, 0, none⟩)] cutE Gx W.heap.size (fun xs => xs = cutL s 0 l) (fun pre => pre <+: cutL s 0 l) (l.length + 1) (fun x => x.size ≤ 2000) ll W := by
  intro J Jx hJ hJx hY h0
  have HJ := Kp.mk hJ
  have HY := Kp.mk hY
  have H0 := Kp.mk h0
  have HG1 := Kp.mk hG1
  have HGV := Kp.mk hGv
  have HV := Kp.mk hv
  have HOK := Kp.mk hok
  have HPOS := Kp.mk (cutOk_pos hok)
  have HC1 := Kp.mk hc1
  have c2 := blk_cell (i := 0) hc2 rfl
  obtain ⟨av, cv, rfl, -, -, -⟩ := hv
  clear hJ hJx hY hc1 hc2 h0 hG1 hG2 hGv hok
  refine callsIn_of_wp Try.func78 rfl trivial ?_ rfl
  simp only [Try.ntmps78, List.size_toArray, List.length_cons, List.length_nil, Nat.reduceAdd, Nat.reduceSub, Array.replicate_succ, Array.replicate_zero, List.push_toArray, List.append_toArray, List.nil_append, List.cons_append]
  generalize hH : W.heap.size = H at *
  gi_wp2_with fail
  gi_loopw [4, 9] (fun va i wr => ∃ k : Nat, k ≤ l.length ∧ i = .int .i64 k ∧ va = .int .i64 (sumZ (l.take k)) ∧ J (cutL s 0 (l.take k)) wr ∧ RdZ wr (.slice av l.length cv) l ∧ wr.heap[bs]? = some (.cells #[.string s] 9 (0, 0)) ∧ H ≤ wr.heap.size) (fun _ i _ => l.length - (intOf i).toNat)
  case atStart => exact ⟨0, by omega, rfl, rfl, H0.out, HV.out, HC1.out, by omega⟩
  case round =>
    obtain ⟨k, hk, rfl, rfl, hj, hr, hb, hz⟩ := hrel
    have H1 := Kp.mk hj
    have HR := Kp.mk hr
    have HSZ := Kp.mk hz
    have HB := Kp.mk hb
    have c1 := blk_cell (i := 0) hb rfl
    clear hj hr hz hb
    by_cases hlt : k < l.length
    · obtain ⟨g, o, rfl, hgl, dd⟩ := rdz_cells HR.out (by omega)
      have d1 := dd k hlt
      obtain ⟨m1, m2, m3⟩ := cutOk_take HOK.out hlt
      have HST := Kp.mk (sumZ_take hlt)
      have HCS := Kp.mk (cutL_step (s := s) hlt HPOS.out)
      have HPX := Kp.mk (cutL_pre (s := s) HPOS.out (k + 1) (by omega))
      have HPL := Kp.mk (show (cutL s 0 (l.take k)).length < l.length + 1 by rw [cutL_len, List.length_take]; omega)
      have q0 : (0 : Int) ≤ (k : Int) := by omega
      have q1 : (k : Int) < (l.length : Int) := by omega
      clear dd c2
      generalize l[k] = m at *
      obtain ⟨at', hat⟩ : ∃ a : Nat, sumZ (l.take k) = (a : Int) := ⟨(sumZ (l.take k)).toNat, by omega⟩
      obtain ⟨mm, hmm⟩ : ∃ a : Nat, m = (a : Int) := ⟨m.toNat, by omega⟩
      subst hmm
      rw [hat] at m2 m3 HST HCS ⊢
      rw [Int.toNat_natCast, Int.toNat_natCast] at HCS
      obtain ⟨fn, tmps, assign, body, hy, hR⟩ := HY.out (cutL s 0 (l.take k)) (s.extract at' (at' + mm)) wr (by rw [ByteArray.size_extract]; omega) H1.out HPL.out HSZ.out
      rw [← HCS.out] at hR
      dsimp only [cutE] at hy
      clear hat
      gi_wp2_with fail
      refine ⟨fun h => by simp [Fence.wide] at h, hR.mono ?_⟩
      rintro e w4 (⟨rfl, hj4, hk4⟩ | ⟨rfl, hx4⟩)
      · have H5 := Kp.mk hj4
        have HR5 := Kp.mk (HR.out.stays hk4.size fun q hq hv => hk4.block q hq (HGV.out (by omega) q hv))
        have HB5 := Kp.mk ((hk4.block bs (blk_lt HB.out) HG1.out).trans HB.out)
        have HS5 := Kp.mk (Nat.le_trans HSZ.out hk4.size)
        clear hk4 hj4 hy hR d1 c1
        gi_wp2_with fail
        go_roundw
        case rel => exact ⟨k + 1, by omega, by go_num, by rw [HST.out], H5.out, HR5.out, HB5.out, HS5.out⟩
        case measure => simp [intOf]; omega
      · have HX4 := Kp.mk hx4
        clear hx4 hy hR
        gi_wp2_with fail
        refine bodyPost_ret (results_none rfl _ _ _) rfl ?_
        exact ⟨⟨_, rfl⟩, .inr ⟨_, HPX.out, HX4.out⟩⟩
    · have hkn : k = l.length := by omega
      subst hkn
      have HJ9 := Kp.mk (show J (cutL s 0 l) wr by have := H1.out; rwa [List.take_length] at this)
      gi_wp2_with fail
      go_end0
      exact ⟨⟨_, rfl⟩, .inl ⟨_, rfl, HJ9.out⟩⟩
end Go.Proofs.Ytpgnekejemockaa
