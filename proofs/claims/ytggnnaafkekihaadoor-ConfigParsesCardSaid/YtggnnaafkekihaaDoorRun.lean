/- strings.IndexRune and ContainsRune, in a text of ASCII, of any rune. -/
import Derived.Test.YtggnnaafkekihaaDoorShh
import Derived.Test.YtggnnaafkekihaaDoorPb
import Derived.Test.YtggnnaafkekihaaDoorGb
import Derived.Laws.Runes
import Derived.Lib.Bytealg
import Derived.RegionTactic
import Derived.ChangeAlike
import Derived.Deep.QuietTactic
import Derived.BigQuiet
import Derived.WalkMore
namespace Go.Proofs.YtggnnaafkekihaaDoor
open Go.RowKit
set_option linter.unusedVariables false
set_option linter.unusedSimpArgs false

theorem inB_ret {i : Nat} {Q : Exit → Act → World → Prop} {a : Act} {w : World} : Exit.inBlock i Q .ret a w = Q .ret a w := rfl
theorem then_ret {K : Act → World → Prop} {Q : Exit → Act → World → Prop} {a : Act} {w : World} : Exit.then K Q .ret a w = Q .ret a w := rfl
def AscS (s : ByteArray) : Prop := ∀ j, j < s.size → bt s j < 128
theorem asc_mem {s : ByteArray} (h : AscS s) {b : UInt8} (hb : b ∈ s.data.toList) : b.toNat < 128 := by
  obtain ⟨j, hj, rfl⟩ := List.getElem_of_mem hb
  have hj2 : j < s.size := by rw [ba_size]; exact hj
  rw [bt_list s j hj2]; exact h j hj2
theorem idxB_asc {s : ByteArray} (h : AscS s) (a e : Nat) (c : UInt8) (hc : 128 ≤ c.toNat) : Lib.indexByte (s.extract a e).data.toList c = -1 := by
  have h1 := Lib.indexByte_ge (s.extract a e).data.toList c
  by_cases h2 : Lib.indexByte (s.extract a e).data.toList c = -1
  · exact h2
  · obtain ⟨o, ho⟩ : ∃ o : Nat, Lib.indexByte (s.extract a e).data.toList c = o := ⟨(Lib.indexByte (s.extract a e).data.toList c).toNat, by omega⟩
    have hm := List.mem_of_getElem? (Lib.indexByte_some ho).1
    have := asc_mem h (mem_extract hm)
    omega
set_option maxRecDepth 100000 in
set_option maxHeartbeats 2000000 in
theorem idxRune_high (s : ByteArray) (r : Int) (w : World) (hs : AscS s) (hz : s.size ≤ 1000000) (h0 : 128 ≤ r) (h1 : r ≤ 1114111) :
    Calls Tryd.prog 82 #[.string s, .int .i32 r] w fun e w' => e = .returned (.int .i64 (-1)) ∧ Below w.heap.size w w' := by
  have HS := Kp.mk hs
  clear hs
  have q1 : ¬ r < 128 := by omega
  by_cases he : r = 65533
  · subst he
    go_enter Tryd.func82, Tryd.ntmps82
    go_wp2_with fail
    go_loopw [5, 6] (fun _ _ wr => ∃ k : Nat, k ≤ s.size ∧ wr = w.iter s k) (fun _ _ wr => s.size - wr.iterPos w.heap.size)
    case atStart => exact ⟨0, by omega, rfl⟩
    case round =>
      obtain ⟨k, hk, rfl⟩ := hrel
      by_cases hlt : k < s.size
      · have hb := bt_at s k hlt
        have hl := HS.out k hlt
        have hnx : ∀ ty, (Instr.next (.pointer (some ⟨w.heap.size, 0, none⟩)) true ty).run Tryd.prog (w.iter s k) = _ := fun ty => run_next_ascii w s k ty hlt (by rw [hb]; exact hl)
        have hq : ((s[k].toNat : Int) == 65533) = false := by rw [beq_eq_false_iff_ne, hb]; omega
        clear hb hl
        go_wp2_with fail
        go_roundw
        case rel => exact ⟨k + 1, by omega, rfl⟩
        case measure => simp; omega
      · have hnx : ∀ ty, (Instr.next (.pointer (some ⟨w.heap.size, 0, none⟩)) true ty).run Tryd.prog (w.iter s k) = _ := fun ty => run_next_end w s k ty (by omega)
        go_wp2_with fail
        go_ret
        exact ⟨rfl, (Below.refl _ _).alloc (Nat.le_refl _) _⟩
  · have q2 : (r == 65533) = false := beq_eq_false_iff_ne.2 he
    cases hv : Lib.validRune r
    · go_enter Tryd.func82, Tryd.ntmps82
      go_wp2_with fail
      refine (Tryd.utf8_ValidRune _ _).mono ?_
      rintro e w1 ⟨rfl, rfl⟩
      rw [hv]
      go_wp2_with fail
      go_ret
      exact ⟨rfl, Below.refl _ _⟩
    · have HV := Kp.mk hv
      clear hv
      obtain ⟨m1, m2, m3⟩ := encode_facts r (by rw [validRune_eq]; exact HV.out) h0
      generalize hE : Utf8.encode r = E at *
      have HE := Kp.mk hE
      clear hE
      have M3 := Kp.mk m3
      clear m3
      go_enter Tryd.func82, Tryd.ntmps82
      go_wp2_with fail
      refine (Tryd.utf8_ValidRune _ _).mono ?_
      rintro e w1 ⟨rfl, rfl⟩
      rw [HV.out]
      have hcv : ∀ w, (convert 21 9 (.int .i32 r)).run Tryd.prog w = .ok (.string E) w := fun w => by rw [run_convert_int_string w _ _ _ _ (by rw [Tryd.underlying21]; rfl) Tryd.underlying9, HE.out]
      obtain ⟨m, hm⟩ : ∃ m : Nat, E.size = m + 1 := ⟨E.size - 1, by omega⟩
      have hi : ((E.size : Nat) : Int) - 1 = (m : Int) := by omega
      have M4 := Kp.mk (fun h : m < E.size => show 128 ≤ (E[m]'h).toNat by
        have := M3.out (by omega)
        have e : E.size - 1 = m := by omega
        simpa only [e] using this)
      have hmE : (m : Int) < (E.size : Int) := by omega
      have hmN : m < E.size := by omega
      clear hm M3
      by_cases hlt : m < s.size
      · have g2 : (0 : Int) ≤ (m : Int) := by omega
        have g3 : (m : Int) < (s.size : Int) := by omega
        have g5 : (m : Int) + 1 ≤ (s.size : Int) := by omega
        have hb := bt_at s m hlt
        have hl := HS.out m hlt
        have hh := M4.out hmN
        have g4 : ((s[m].toNat : Int) != (E[m].toNat : Int)) = true := by rw [bne_iff_ne, hb]; omega
        have HN := Kp.mk (show Lib.indexByte (s.extract (m + 1) s.size).data.toList ((E[m].toNat : Int)).toNat.toUInt8 = -1 by rw [show ((E[m].toNat : Int)).toNat.toUInt8 = E[m] by simp]; exact idxB_asc HS.out (m + 1) s.size E[m] hh)
        have w1' : IntKind.i64.wrap ((m : Int) + 1) = (m : Int) + 1 := wrap_small _ (by omega) (by omega)
        have w2' : (0 : Int) ≤ (m : Int) + 1 := by omega
        have w3' : ((m : Int) + 1).toNat = m + 1 := by omega
        clear hb hl hh
        go_wp2_with fail
        go_step3
        go_wp2_with fail
        go_loop [9] (fun i => i = .int .i64 (m : Int)) (fun _ => 0)
        case atStart => rfl
        case round =>
          subst hrel
          go_wp2_with fail
          go_step3
          go_wp2_with fail
          go_quiet (fail)
          go_wp2_with fail
          have HB := Kp.mk (gdrewN w1 nq)
          generalize w1.drewN nq = w2 at *
          go_quiet ((go_at_call 85; exact Calls.quiet_of_same (Tryd.strings_IndexByte _ _ _)))
          rw [HN.out]
          go_wp2_with fail
          try simp +zetaDelta only [Exit.noGoto_ret, inB_ret, then_ret]
          go_ret
          exact ⟨rfl, HB.out.trans ((gdrewN _ _).mono HB.out.size)⟩
      · have g3 : ¬ (m : Int) < (s.size : Int) := by omega
        go_wp2_with fail
        go_step3
        go_wp2_with fail
        go_loop [9] (fun i => i = .int .i64 (m : Int)) (fun _ => 0)
        case atStart => rfl
        case round =>
          subst hrel
          go_wp2_with fail
          try simp +zetaDelta only [Exit.noGoto_ret, inB_ret, then_ret]
          go_ret
          exact ⟨rfl, Below.refl _ _⟩
/-- Does the rune stand there? -/
theorem idxB_mem (l : List UInt8) (c : UInt8) : decide (0 ≤ Lib.indexByte l c) = l.any (fun d => d == c) := by
  rw [Bool.eq_iff_iff, decide_eq_true_eq, List.any_eq_true]
  constructor
  · intro h
    have := (Lib.indexByte_some (l := l) (c := c) (o := (Lib.indexByte l c).toNat) (by omega)).1
    exact ⟨c, List.mem_of_getElem? this, by simp⟩
  · rintro ⟨d, hd, he⟩
    have he : d = c := by simpa using he
    subst he
    by_cases h2 : Lib.indexByte l d = -1
    · obtain ⟨j, hj⟩ := List.getElem?_of_mem hd
      exact absurd hj (Lib.indexByte_none h2 j)
    · have := Lib.indexByte_ge l d
      omega
set_option maxRecDepth 100000 in
set_option maxHeartbeats 1000000 in
theorem hasRune_any (s : ByteArray) (r : Int) (w : World) (hs : AscS s) (hz : s.size ≤ 1000000) (h0 : 0 ≤ r) (h1 : r ≤ 1114111) :
    Calls Tryd.prog 78 #[.string s, .int .i32 r] w fun e w' => e = .returned (.bool (decide (r < 128) && s.data.toList.any (fun d => d.toNat == r.toNat))) ∧ Below w.heap.size w w' := by
  by_cases hl : r < 128
  · refine (Tryd.strings_ContainsRune_ascii s r w h0 hl).mono ?_
    rintro e w1 ⟨rfl, rfl⟩
    refine ⟨?_, Below.refl _ _⟩
    rw [idxB_mem, decide_eq_true hl, Bool.true_and]
    congr 2
    apply congrArg
    funext d
    rw [Bool.eq_iff_iff, beq_iff_eq, beq_iff_eq]
    have hd := UInt8.toNat_lt d
    constructor
    · rintro rfl
      simp; omega
    · intro h
      apply UInt8.toNat_inj.1
      rw [h]; simp; omega
  · rw [decide_eq_false hl, Bool.false_and]
    go_enter Tryd.func78, Tryd.ntmps78
    go_wp2_with fail
    refine (idxRune_high s r _ hs hz (by omega) h1).mono ?_
    rintro e w1 ⟨rfl, hb⟩
    go_wp2_with fail
    go_ret
    exact ⟨rfl, hb⟩
end Go.Proofs.YtggnnaafkekihaaDoor
