/- A link: what it does (layer 38). -/
import Derived.Test.YtpgnekejemockaaLka
import Derived.Handy
namespace Go.Proofs.Ytpgnekejemockaa
open Go.RowKit
set_option linter.unusedVariables false
set_option linter.unusedSimpArgs false

theorem LkV.onq {F : Nat → Prop} {b qb qg M : Nat} {S S' : List UInt8} {v : Value} {O : List UInt8} {e0 e1 : Bool} {w w' : World} (h : LkV F b qb qg M S v O e0 e1 w) (hq : QS qb qg M S' w') (ho : Onl qb (some qg) w w') : LkV F b qb qg M S' v O e0 e1 w' :=
  ⟨(ho.block b (blk_lt h.blk) h.apart.1 (by intro e; cases e; exact h.apart.2 rfl)).trans h.blk, hq,
    h.own.kept fun k hk hl => ho.block k hl (by rintro rfl; exact h.ne.2.1 hk) (by intro e; cases e; exact h.ne.2.2 hk), h.ne, h.apart, h.fb, h.fq, h.fg, h.fv⟩
theorem LkV.kptq {F : Nat → Prop} {b qb qg M : Nat} {S : List UInt8} {v : Value} {O : List UInt8} {e0 e1 : Bool} {w w' : World} (h : LkV F b qb qg M S v O e0 e1 w) (ho : Onl qb (some qg) w w') : Kpt F w w' :=
  (Kpt.refl F w).onl ho h.fq (by intro k e; cases e; exact h.fg)
theorem LkV.end0 {F : Nat → Prop} {b qb qg M : Nat} {S : List UInt8} {v : Value} {O : List UInt8} {e0 e1 : Bool} {w : World} (h : LkV F b qb qg M S v O e0 e1 w) : LkV F b qb qg M S v O true e1 (w.setCell ⟨b, 2, none⟩ (.bool true)) :=
  ⟨(blk_set h.blk _).trans rfl, h.q.kept fun k _ hk => Below.heap_setCell _ _ _ _ (by rcases hk with rfl | rfl; exact h.apart.1.symm; exact h.apart.2.symm),
    h.own.kept fun k hk _ => Below.heap_setCell _ _ _ _ (by rintro rfl; exact h.ne.1 hk), h.ne, h.apart, h.fb, h.fq, h.fg, h.fv⟩
theorem LkV.end1 {F : Nat → Prop} {b qb qg M : Nat} {S : List UInt8} {v : Value} {O : List UInt8} {e0 e1 : Bool} {w : World} (h : LkV F b qb qg M S v O e0 e1 w) : LkV F b qb qg M S v O e0 true (w.setCell ⟨b, 3, none⟩ (.bool true)) :=
  ⟨(blk_set h.blk _).trans rfl, h.q.kept fun k _ hk => Below.heap_setCell _ _ _ _ (by rcases hk with rfl | rfl; exact h.apart.1.symm; exact h.apart.2.symm),
    h.own.kept fun k hk _ => Below.heap_setCell _ _ _ _ (by rintro rfl; exact h.ne.1 hk), h.ne, h.apart, h.fb, h.fq, h.fg, h.fv⟩
/-- What waits is another: in the same row, or in a new one. -/
theorem LkV.wait {F : Nat → Prop} {b qb qg M n : Nat} {S : List UInt8} {v v2 : Value} {O O2 : List UInt8} {e0 e1 : Bool} {w w2 : World} (h : LkV F b qb qg M S v O e0 e1 w) (hg : w.grownBy w2 v.ownBlock) (ho : OwO 0 5 v2 O2 w2)
    (hv : v2.ownBlock = v.ownBlock ∨ (v2.ownBlock = some w.heap.size ∧ ¬ F w.heap.size)) : LkV F b qb qg M S v2 O2 e0 e1 (w2.setCell ⟨b, 1, none⟩ v2) := by
  have hb := blk_lt h.blk
  obtain ⟨hq1, hq2⟩ := h.q.lt
  have old : ∀ k, k < w.heap.size → v.ownBlock ≠ some k → v2.ownBlock ≠ some k := fun k hk hne => by
    rcases hv with hv | ⟨hv, _⟩
    · rw [hv]; exact hne
    · rw [hv]; intro e; cases e; omega
  have hb2 : w2.heap[b]? = _ := (hg.block b hb (fun e => h.ne.1 e.symm)).trans h.blk
  refine ⟨(blk_set hb2 _).trans rfl, ?_, ho.kept fun k hk _ => Below.heap_setCell _ _ _ _ (by rintro rfl; exact old _ hb h.ne.1 hk), ⟨old b hb h.ne.1, old qb hq1 h.ne.2.1, old qg hq2 h.ne.2.2⟩, h.apart, h.fb, h.fq, h.fg, ?_⟩
  · refine h.q.kept fun k hk hor => ?_
    rw [Below.heap_setCell _ _ _ _ (show k ≠ b by rcases hor with rfl | rfl; exact h.apart.1.symm; exact h.apart.2.symm)]
    exact hg.block k hk (by rcases hor with rfl | rfl; exact fun e => h.ne.2.1 e.symm; exact fun e => h.ne.2.2 e.symm)
  · intro k hk
    rcases hv with hv | ⟨hv, hF⟩
    · exact h.fv k (by rw [← hv]; exact hk)
    · rw [hv] at hk; cases hk; exact hF

theorem lk_end (F : Nat → Prop) (b qb qg M : Nat) (S O : List UInt8) (e0 e1 : Bool) (w : World) (h : LK F b qb qg M S O e0 e1 w) :
    Calls Try.prog 89 #[.pointer (some ⟨b, 0, none⟩)] w fun e w' => e = .returned (.tuple #[]) ∧ LK F b qb qg M S O true e1 w' ∧ Kpt F w w' := by
  have H := Kp.mk h
  obtain ⟨v, h⟩ := h
  have HV := Kp.mk h
  obtain ⟨c0, c1, c2, c3, f1, f2, f3⟩ := h.facts
  clear h
  go_enter Try.func89, Try.ntmps89
  go_wp2_with fail
  refine (lk_made F b qb qg M S O e0 e1 _ H.out).mono ?_
  rintro e w1 ⟨rfl, rfl⟩
  go_wp2_with fail
  go_returns
  exact ⟨rfl, ⟨v, HV.out.end0⟩, (Kpt.refl F _).setCell _ _ HV.out.fb⟩
theorem lk_use (F : Nat → Prop) (b qb qg M : Nat) (S O : List UInt8) (e0 e1 : Bool) (n : Int) (w : World) (h : LK F b qb qg M S O e0 e1 w) :
    Calls Try.prog 64 #[.pointer (some ⟨b, 0, none⟩), .int .i64 n] w fun e w' => e = .returned (.tuple #[]) ∧ LK F b qb qg M (S.drop n.toNat) O e0 e1 w' ∧ Kpt F w w' := by
  have H := Kp.mk h
  obtain ⟨v, h⟩ := h
  have HV := Kp.mk h
  obtain ⟨c0, c1, c2, c3, f1, f2, f3⟩ := h.facts
  clear h
  go_enter Try.func64, Try.ntmps64
  go_wp2_with fail
  refine (lk_made F b qb qg M S O e0 e1 _ H.out).mono ?_
  rintro e w1 ⟨rfl, rfl⟩
  go_wp2_with fail
  refine (q_take _ _ _ _ n _ HV.out.q).mono ?_
  rintro e w1 ⟨rfl, hq, ho⟩
  have HQ := Kp.mk hq
  have HO := Kp.mk ho
  clear hq ho
  go_wp2_with fail
  go_returns
  exact ⟨rfl, ⟨v, HV.out.onq HQ.out HO.out⟩, HV.out.kptq HO.out⟩
theorem lk_shut (F : Nat → Prop) (b qb qg M : Nat) (S O : List UInt8) (e0 e1 : Bool) (w : World) (h : LK F b qb qg M S O e0 e1 w) :
    Calls Try.prog 66 #[.pointer (some ⟨b, 0, none⟩)] w fun e w' => e = .returned (.tuple #[]) ∧ LK F b qb qg M [] O e0 true w' ∧ Kpt F w w' := by
  have H := Kp.mk h
  obtain ⟨v, h⟩ := h
  have HV := Kp.mk h
  obtain ⟨c0, c1, c2, c3, f1, f2, f3⟩ := h.facts
  clear h
  go_enter Try.func66, Try.ntmps66
  go_wp2_with fail
  refine (lk_made F b qb qg M S O e0 e1 _ H.out).mono ?_
  rintro e w1 ⟨rfl, rfl⟩
  go_wp2_with fail
  refine (q_len _ _ _ _ _ HV.out.q).mono ?_
  rintro e w1 ⟨rfl, rfl⟩
  go_wp2_with fail
  refine (lk_use F b qb qg M S O e0 e1 _ _ H.out).mono ?_
  rintro e w1 ⟨rfl, h1, hk⟩
  rw [Int.toNat_natCast, List.drop_length] at h1
  obtain ⟨v1, h1⟩ := h1
  have H1 := Kp.mk h1
  have HK := Kp.mk hk
  obtain ⟨d0, d1, d2, d3, g1, g2, g3⟩ := h1.facts
  clear h1 hk c0 c1 c2 c3 f1 f2 f3
  go_wp2_with fail
  go_returns
  exact ⟨rfl, ⟨v1, H1.out.end1⟩, HK.out.setCell _ _ H1.out.fb⟩
def giveN (e0 e1 : Bool) (M : Nat) (S : List UInt8) (s : ByteArray) : Nat := if e0 = true ∨ e1 = true then 0 else min s.size (M - S.length)
theorem lk_give (F : Nat → Prop) (b qb qg M : Nat) (S O : List UInt8) (e0 e1 : Bool) (s : ByteArray) (w : World) (h : LK F b qb qg M S O e0 e1 w) (hs : s.size ≤ 1000000) :
    Calls Try.prog 88 #[.pointer (some ⟨b, 0, none⟩), .string s] w fun e w' => e = .returned (.int .i64 (giveN e0 e1 M S s : Nat)) ∧ LK F b qb qg M (S ++ s.data.toList.take (giveN e0 e1 M S s)) O e0 e1 w' ∧ Kpt F w w' := by
  have H := Kp.mk h
  obtain ⟨v, h⟩ := h
  have HV := Kp.mk h
  obtain ⟨c0, c1, c2, c3, f1, f2, f3⟩ := h.facts
  clear h
  cases e1
  · cases e0
    · have HG := Kp.mk (show giveN false false M S s = min s.size (M - S.length) from rfl)
      go_enter Try.func88, Try.ntmps88
      go_wp2_with fail
      refine (lk_live F b qb qg M S O false false _ H.out).mono ?_
      rintro e w1 ⟨rfl, rfl⟩
      go_wp2_with fail
      refine (q_put _ _ _ _ s _ HV.out.q hs).mono ?_
      rintro e w1 ⟨rfl, hq, ho⟩
      rw [← HG.out] at hq ⊢
      have HQ := Kp.mk hq
      have HO := Kp.mk ho
      clear hq ho
      go_wp2_with fail
      go_ret
      exact ⟨rfl, ⟨v, HV.out.onq HQ.out HO.out⟩, HV.out.kptq HO.out⟩
    · have HG := Kp.mk (show giveN true false M S s = 0 from rfl)
      go_enter Try.func88, Try.ntmps88
      go_wp2_with fail
      refine (lk_live F b qb qg M S O true false _ H.out).mono ?_
      rintro e w1 ⟨rfl, rfl⟩
      go_wp2_with fail
      go_ret
      exact ⟨rfl, by rw [HG.out, List.take_zero, List.append_nil]; exact H.out, Kpt.refl _ _⟩
  · have HG := Kp.mk (show giveN e0 true M S s = 0 by unfold giveN; simp)
    go_enter Try.func88, Try.ntmps88
    go_wp2_with fail
    refine (lk_live F b qb qg M S O e0 true _ H.out).mono ?_
    rintro e w1 ⟨rfl, rfl⟩
    go_wp2_with fail
    go_ret
    exact ⟨by rw [HG.out]; rfl, by rw [HG.out, List.take_zero, List.append_nil]; exact H.out, Kpt.refl _ _⟩
theorem Try.infoU8L : (Try.prog.info? 5).map (fun i => (i.zero, i.size, i.bytes)) = some (some (.int .u8 0), 1, 1) := by kernel_rfl
def wroteO (e1 : Bool) (O : List UInt8) (s : ByteArray) : List UInt8 := if e1 = true then O else O ++ s.data.toList
theorem lk_write (F : Nat → Prop) (b qb qg M : Nat) (S O : List UInt8) (e0 e1 : Bool) (s : ByteArray) (w : World) (h : LK F b qb qg M S O e0 e1 w) (hs : O.length + s.size ≤ 140737488355328) (hF : ∀ k, F k → k < w.heap.size) :
    Calls Try.prog 60 #[.pointer (some ⟨b, 0, none⟩), .string s] w fun e w' => e = .returned (.tuple #[]) ∧ LK F b qb qg M S (wroteO e1 O s) e0 e1 w' ∧ Kpt F w w' := by
  have H := Kp.mk h
  have HF := Kp.mk hF
  obtain ⟨v, h⟩ := h
  have HV := Kp.mk h
  obtain ⟨c0, c1, c2, c3, f1, f2, f3⟩ := h.facts
  have HOW := Kp.mk h.own
  have hbl := blk_lt h.blk
  clear hF
  cases e1
  · have HW := Kp.mk (show wroteO false O s = O ++ s.data.toList from rfl)
    clear h
    go_enter Try.func60, Try.ntmps60
    go_wp2_with fail
    refine (lk_live F b qb qg M S O e0 false _ H.out).mono ?_
    rintro e w1 ⟨rfl, rfl⟩
    go_wp2_with (first
      | (at_builtin; refine app_strO rfl _ _ _ _ _ rfl Try.underlying91 Try.underlying9 Try.infoU8L 0 v O rfl HOW.out s rfl hs (Nat.zero_le _) ?_; intro a' c' w2 ho2 hg2 hv2; have HO2 := Kp.mk ho2; have HG2 := Kp.mk hg2; have HV2 := Kp.mk hv2; have k1 := blk_free (i := 1) ((HG2.out.block b hbl (fun e => HV.out.ne.1 e.symm)).trans HV.out.blk); have k2 := blk_cell (i := 1) ((HG2.out.block b hbl (fun e => HV.out.ne.1 e.symm)).trans HV.out.blk) rfl; clear ho2 hg2 hv2))
    go_returns
    refine ⟨rfl, ⟨_, by rw [HW.out]; exact HV.out.wait (n := 0) HG2.out HO2.out (HV2.out.imp id fun h => ⟨h, fun h => Nat.lt_irrefl _ (HF.out _ h)⟩)⟩, ((Kpt.refl F _).grown HG2.out (fun k hk => HV.out.fv k hk)).setCell _ _ HV.out.fb⟩
  · have HW := Kp.mk (show wroteO true O s = O from rfl)
    clear h
    go_enter Try.func60, Try.ntmps60
    go_wp2_with fail
    refine (lk_live F b qb qg M S O e0 true _ H.out).mono ?_
    rintro e w1 ⟨rfl, rfl⟩
    go_wp2_with fail
    go_returns
    exact ⟨rfl, by rw [HW.out]; exact H.out, Kpt.refl _ _⟩
theorem lk_take (F : Nat → Prop) (b qb qg M : Nat) (S O : List UInt8) (e0 e1 : Bool) (n : Int) (w : World) (h : LK F b qb qg M S O e0 e1 w) :
    Calls Try.prog 93 #[.pointer (some ⟨b, 0, none⟩), .int .i64 n] w fun e w' => e = .returned (.string (oB (O.take n.toNat))) ∧ LK F b qb qg M S (O.drop n.toNat) e0 e1 w' ∧ Kpt F w w' := by
  have H := Kp.mk h
  obtain ⟨v, h⟩ := h
  have HV := Kp.mk h
  obtain ⟨c0, c1, c2, c3, f1, f2, f3⟩ := h.facts
  by_cases hz : n < 1 ∨ O.length = 0
  · have e1 : O.take n.toNat = [] := by rw [← List.length_eq_zero_iff, List.length_take]; omega
    have e2 : O.drop n.toNat = O := by
      rcases hz with hz | hz
      · rw [show n.toNat = 0 by omega]; rfl
      · rw [List.length_eq_zero_iff.1 hz]; simp
    rw [e1, e2]
    have hz2 : (n < 0) ∨ n = 0 ∨ (0 < n ∧ O = []) := by
      by_cases h1 : n < 0
      · exact .inl h1
      · by_cases h2 : n = 0
        · exact .inr (.inl h2)
        · exact .inr (.inr ⟨by omega, List.length_eq_zero_iff.1 (by omega)⟩)
    clear h e1 e2 hz
    rcases hz2 with z1 | rfl | ⟨z1, rfl⟩
    · have z2 : ¬ ((O.length : Int) < n) := by omega
      have z3 : ¬ (0 < n) := by omega
      go_enter Try.func93, Try.ntmps93
      go_wp2_with fail
      refine (lk_waits F b qb qg M S O _ _ _ H.out).mono ?_
      rintro e w1 ⟨rfl, rfl⟩
      go_wp2_with fail
      go_ret
      exact ⟨rfl, H.out, Kpt.refl _ _⟩
    · have z2 : ¬ ((O.length : Int) < 0) := by omega
      go_enter Try.func93, Try.ntmps93
      go_wp2_with fail
      refine (lk_waits F b qb qg M S O _ _ _ H.out).mono ?_
      rintro e w1 ⟨rfl, rfl⟩
      go_wp2_with fail
      go_ret
      exact ⟨rfl, H.out, Kpt.refl _ _⟩
    · have z3 : ¬ (n < 0) := by omega
      go_enter Try.func93, Try.ntmps93
      go_wp2_with fail
      refine (lk_waits F b qb qg M S [] _ _ _ H.out).mono ?_
      rintro e w1 ⟨rfl, rfl⟩
      go_wp2_with fail
      go_ret
      exact ⟨rfl, H.out, Kpt.refl _ _⟩
  · rcases h.own with ⟨rfl, rfl⟩ | ⟨g, o, cap, cur, rfl, hr⟩
    · exfalso; simp at hz
    · obtain ⟨u, hu⟩ : ∃ u : Nat, (u : Int) = min n (O.length : Int) := ⟨(min n (O.length : Int)).toNat, by omega⟩
      have hu0 : 0 < u := by omega
      have hul : u ≤ O.length := by omega
      have e1 : O.take n.toNat = O.take u := by
        by_cases h1 : n ≤ O.length
        · congr 1; omega
        · rw [List.take_of_length_le (by omega), List.take_of_length_le (by omega)]
      have e2 : O.drop n.toNat = O.drop u := by
        by_cases h1 : n ≤ O.length
        · congr 1; omega
        · rw [List.drop_of_length_le (by omega), List.drop_of_length_le (by omega)]
      rw [e1, e2]
      have hul2 : u ≤ cap := by have := hr.le; omega
      have hmax := hr.max
      unfold maxLen at hmax
      have hlc := hr.le
      have hway : ((u : Int) = n ∧ ¬ ((O.length : Int) < n)) ∨ (u = O.length ∧ (O.length : Int) < n) := by omega
      have hcv := hr.text (src := 91) (dst := 9) Try.underlying91 Try.underlying5 Try.underlying9 u cap hul
      have hq : (⟨(O.take u).toArray⟩ : ByteArray) = oB (O.take u) := rfl
      have u0 : ((u : Int) == 0) = false := i64nq (by omega)
      rw [hq] at hcv
      have HCV := Kp.mk hcv
      have HR := Kp.mk hr
      clear h e1 e2 hz hr hq hcv hu
      go_enter Try.func93, Try.ntmps93
      go_upto_region 1 with fail
      go_cut [1] (fun v wx => v = .int .i64 u ∧ wx = w)
      case first =>
        go_wp2_with fail
        refine (lk_waits F b qb qg M S O _ _ _ H.out).mono ?_
        rintro e w1 ⟨rfl, rfl⟩
        rcases hway with ⟨z1, z2⟩ | ⟨z1, z2⟩
        · obtain rfl := z1
          go_wp2_with fail
          go_meet
          exact ⟨rfl, rfl⟩
        · obtain rfl := z1
          go_wp2_with fail
          go_meet
          exact ⟨rfl, rfl⟩
      case rest =>
        obtain ⟨rfl, rfl⟩ := hcut
        have hcv := HCV.out
        clear hway
        by_cases hcu : u = cap
        · obtain rfl := hcu
          have hol : O.length = u := by omega
          go_wp2_with fail
          go_ret
          exact ⟨rfl, ⟨_, HV.out.wait (n := 0) ⟨rfl, rfl, rfl, Nat.le_refl _, fun _ _ _ => rfl⟩ (by have := HR.out.drop_all hol; rwa [hol, Nat.sub_self] at this) (.inl rfl)⟩, (Kpt.refl F _).setCell _ _ HV.out.fb⟩
        · have hcu2 : ¬ (cap = u) := fun h => hcu h.symm
          go_wp2_with fail
          go_ret
          exact ⟨rfl, ⟨_, HV.out.wait (n := 0) ⟨rfl, rfl, rfl, Nat.le_refl _, fun _ _ _ => rfl⟩ (HR.out.drop u hul hcu) (.inl rfl)⟩, (Kpt.refl F _).setCell _ _ HV.out.fb⟩
def NewL (m : Nat) (w : World) (e : Ending) (w' : World) : Prop := ∃ b qb qg, e = .returned (.pointer (some ⟨b, 0, none⟩)) ∧ LK (fun k => k < w.heap.size) b qb qg m [] [] false false w' ∧ Below w.heap.size w w'
theorem lk_new (m : Nat) (w : World) (h : m ≤ 65536) : Calls Try.prog 30 #[.int .i64 m] w (NewL m w) := by
  go_enter Try.func30, Try.ntmps30
  go_wp2_with fail
  refine (q_new m _ h).mono ?_
  rintro e w1 ⟨rfl, hq, hb⟩
  have HQ := Kp.mk hq
  have HB := Kp.mk hb
  have hl := hq.lt
  clear hq hb
  go_wp2_with fail
  go_ret
  have hb2 := (Below.refl w1.heap.size w1).alloc (Nat.le_refl _) (.cells #[.pointer (some ⟨w.heap.size + 1, 0, none⟩), .slice none 0 0, .bool false, .bool false] 112)
  refine ⟨w1.heap.size, w.heap.size + 1, w.heap.size, rfl, ⟨_, heap_alloc_new w1 _, HQ.out.below hb2, .nil _ _ _, ⟨by simp [Value.ownBlock], by simp [Value.ownBlock], by simp [Value.ownBlock]⟩, ⟨by omega, by omega⟩, by have := HB.out.size; omega, by omega, by omega, by simp [Value.ownBlock]⟩, HB.out.trans (hb2.mono HB.out.size)⟩
theorem lk_new_no (m : Int) (w : World) (h : m < 0 ∨ 65536 < m) : Calls Try.prog 30 #[.int .i64 m] w fun e w' => e = .returned (.pointer none) ∧ w = w' := by
  have H := Kp.mk h
  clear h
  go_enter Try.func30, Try.ntmps30
  go_wp2_with fail
  refine (qnew_no m _ H.out).mono ?_
  rintro e w1 ⟨rfl, rfl⟩
  go_wp2_with fail
  go_ret
  exact ⟨rfl, rfl⟩
end Go.Proofs.Ytpgnekejemockaa
