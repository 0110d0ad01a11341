/- Texts as one; two lists of texts; the document's lines (layer 16). -/
import Derived.Test.YtkdfhhhlmeknmaaLnd
namespace Go.Proofs.Ytkdfhhhlmeknmaa
open Go.RowKit
set_option linter.unusedVariables false
set_option linter.unusedSimpArgs false

set_option maxRecDepth 100000 in
set_option maxHeartbeats 1000000 in
theorem samestr_eq (v1 v2 : Value) (l : List ByteArray) (w : World) (h1 : RdS w v1 l) (h2 : RdS w v2 l) :
    Calls Try.prog 20 #[v1, v2] w fun e w' => e = .returned (.bool true) ∧ Below w.heap.size w w' := by
  obtain ⟨a1, c1, rfl, m1, x1, g1⟩ := h1.strs
  obtain ⟨a2, c2, rfl, m2, x2, g2⟩ := h2.strs
  have G1 := Kp.mk g1
  have G2 := Kp.mk g2
  have hll : l.length ≤ 9223372036854775807 := by unfold maxLen at x1; omega
  clear h1 h2 g1 g2 x1 x2
  go_enter Try.func20, Try.ntmps20
  go_wp2_with fail
  go_loopw [5] (fun i wr => ∃ k : Nat, k ≤ l.length ∧ i = .int .i64 k ∧ ∃ m, wr = w.drewN m) (fun i _ => l.length - (intOf i).toNat)
  case atStart => exact ⟨0, by omega, rfl, 0, rfl⟩
  case round =>
    obtain ⟨k, hk, rfl, m, rfl⟩ := hrel
    by_cases hlt : k < l.length
    · obtain ⟨b1, o1, rfl, k1, d1⟩ := G1.out (by omega)
      obtain ⟨b2, o2, rfl, k2, d2⟩ := G2.out (by omega)
      have e1 := d1 k hlt
      have e2 := d2 k hlt
      have q0 : (0 : Int) ≤ (k : Int) := by omega
      have q1 : (k : Int) < (l.length : Int) := by omega
      clear d1 d2
      go_wp2_with fail
      go_quiet (fail)
      go_wp2_with fail
      go_roundw
      case rel => exact ⟨k + 1, by omega, by go_num, _, rfl⟩
      case measure => simp [intOf]; omega
    · go_wp2_with fail
      go_ret
      exact ⟨rfl, gdrewN _ _⟩
/-- Texts as one, as long as they are few and short. -/
def JoinPost (ps : List ByteArray) (w : World) (e : Ending) (w' : World) : Prop :=
  ∃ (s : ByteArray) (ok : Bool), e = .returned (.tuple #[.string s, .bool ok]) ∧ w = w' ∧ (ok = true → s.data.toList = catL ps ∧ s.size ≤ 4000 ∧ ps.length ≤ 200 ∧ ∀ t ∈ ps, t.size ≤ 2000)
theorem join_no {ps : List ByteArray} {w : World} {s : ByteArray} : JoinPost ps w (.returned (.tuple #[.string s, .bool false])) w := ⟨s, false, rfl, rfl, fun h => by cases h⟩
theorem i64gt {a b : Int} (h : a > b) : decide (b < a) = true := by simp; omega
set_option maxRecDepth 100000 in
set_option maxHeartbeats 1000000 in
theorem joined_any (v : Value) (ps : List ByteArray) (w : World) (hv : RdS w v ps) (hz : ∀ t ∈ ps, t.size ≤ maxLen) :
    Calls Try.prog 15 #[v] w (JoinPost ps w) := by
  obtain ⟨a1, c1, rfl, m1, x1, g1⟩ := hv.strs
  have G1 := Kp.mk g1
  have HZ := Kp.mk hz
  have hll : ps.length ≤ 9223372036854775807 := by unfold maxLen at x1; omega
  clear hv g1 x1 hz
  go_enter Try.func15, Try.ntmps15
  go_wp2_with fail
  go_loop [4, 9] (fun s i => ∃ (k : Nat) (x : ByteArray), k ≤ ps.length ∧ i = .int .i64 k ∧ s = .string x ∧ x.data.toList = catL (ps.take k) ∧ x.size ≤ 4000 ∧ k ≤ 200 ∧ ∀ t ∈ ps.take k, t.size ≤ 2000) (fun _ i => ps.length - (intOf i).toNat)
  case atStart => exact ⟨0, ⟨#[]⟩, by omega, rfl, rfl, rfl, by decide, by omega, by simp⟩
  case round =>
    obtain ⟨k, x, hk, rfl, rfl, hx, hxs, hk2, hts⟩ := hrel
    have HX := Kp.mk hx
    have HT := Kp.mk hts
    clear hx hts
    by_cases hlt : k < ps.length
    · obtain ⟨b1, o1, rfl, k1, d1⟩ := G1.out (by omega)
      have e1 := d1 k hlt
      have q0 : (0 : Int) ≤ (k : Int) := by omega
      have q1 : (k : Int) < (ps.length : Int) := by omega
      have hmx := HZ.out ps[k] (List.getElem_mem hlt)
      unfold maxLen at hmx
      clear d1
      by_cases h200 : 200 ≤ k
      · go_wp2_with fail
        go_ret2
        exact join_no
      · by_cases h2 : 2000 < ps[k].size
        · go_wp2_with fail
          go_ret2
          exact join_no
        · by_cases h3 : 2000 < x.size
          · go_wp2_with fail
            go_ret2
            exact join_no
          · go_wp2_with fail
            go_round
            case rel => exact ⟨k + 1, x ++ ps[k], by omega, by go_num, rfl, by rw [cat_app, HX.out, take_snocB _ _ hlt, catL_snoc], by simp; omega, by omega, fun t ht => by
              rw [take_snocB _ _ hlt] at ht
              simp only [List.mem_append, List.mem_singleton] at ht
              rcases ht with ht | rfl
              · exact HT.out t ht
              · omega⟩
            case measure => simp [intOf]; omega
    · go_wp2_with fail
      go_ret2
      have hke : k = ps.length := by omega
      subst hke
      refine ⟨x, true, rfl, rfl, fun _ => ⟨by rw [HX.out, List.take_length], hxs, hk2, fun t ht => HT.out t (by rw [List.take_length]; exact ht)⟩⟩

def mkB (t : List UInt8) : ByteArray := ⟨t.toArray⟩
theorem mkB_list (s : ByteArray) : mkB s.data.toList = s := by unfold mkB; cases s; simp
def svC (l : List ByteArray) : List Value := l.flatMap strC
theorem svC_len (l : List ByteArray) : (svC l).length = l.length * 1 := flat_len (sz := 1) (fun _ => rfl) l
theorem svC_snoc (l : List ByteArray) (s : ByteArray) : svC (l ++ [s]) = svC l ++ [.string s] := by simp [svC, strC]
theorem Try.infoS : (Try.prog.info? 9).map (fun i => (i.zero, i.size, i.bytes)) = some (some (.string ByteArray.empty), 1, 16) := by kernel_rfl
def ReadPost (s : ByteArray) (most : Nat) (w : World) (e : Ending) (w' : World) : Prop :=
  ∃ v, e = .returned (.tuple #[v, .bool (wthS (all16 most s.data.toList).2), .int .i64 (all16 most s.data.toList).2.spent, .int .i64 (all16 most s.data.toList).2.err]) ∧
    w'.ownsRow w.heap.size 9 1 v (all16 most s.data.toList).1.length (svC ((all16 most s.data.toList).1.map mkB)) ∧ Below w.heap.size w w'
theorem ReadPost.of_end {s : ByteArray} {most i fr : Nat} {er : Int} {out : List (List UInt8)} {w w' : World} {v : Value} (h : RefEnd most s i fr er out) (ho : w'.ownsRow w.heap.size 9 1 v out.length (svC (out.map mkB))) (hb : Below w.heap.size w w') (x : Bool) (hx : x = decide (fr < i)) :
    ReadPost s most w (.returned (.tuple #[v, .bool x, .int .i64 i, .int .i64 er])) w' := by
  refine ⟨v, ?_, by rw [h.out]; exact ho, hb⟩
  rw [h.within, h.spent, h.err, hx]
set_option maxRecDepth 100000 in
set_option maxHeartbeats 2000000 in
theorem read16_any (s : ByteArray) (most : Nat) (w : World) (hs : s.size ≤ 1000000) (hm : most ≤ 65536) :
    Calls Try.prog 19 #[.string s, .int .i64 most] w (ReadPost s most w) := by
  go_enter Try.func19, Try.ntmps19
  go_wp2_with fail
  go_loopw [8, 9, 10] (fun v f i wr => ∃ (k fr : Nat), i = .int .i64 k ∧ f = .int .i64 fr ∧ RefAt most s k fr ∧ wr.ownsRow w.heap.size 9 1 v (all16 most (s.data.toList.take k)).1.length (svC ((all16 most (s.data.toList.take k)).1.map mkB)) ∧ Below w.heap.size w wr) (fun _ _ i _ => s.size - (intOf i).toNat)
  case atStart =>
    refine ⟨0, 0, rfl, rfl, refAt_start _ _, ?_, (Below.refl _ _).alloc (Nat.le_refl _) _⟩
    exact World.ownsRow_lit (base := w.heap.size) (e := 9) (size := 1) w #[] 0 (Nat.le_refl _) (by unfold maxLen; omega) rfl
  case round =>
    obtain ⟨k, fr, rfl, rfl, hra, hown, hbel⟩ := hrel
    obtain ⟨a, c, rfl⟩ := own_len hown
    have hkl := hra.le
    have hfk := hra.from_le
    have hBs := hbel.size
    have hll := (all16_ok most (s.data.toList.take k)).lines
    have hsp := (all16_ok most (s.data.toList.take k)).spent
    rw [List.length_take] at hsp
    have hol : (all16 most (s.data.toList.take k)).1.length ≤ 1000000 := by omega
    have HRA := Kp.mk hra
    have HOW := Kp.mk hown
    have HBE := Kp.mk hbel
    have HBH := Kp.mk hra.behind
    clear hra hown hbel hll hsp
    generalize hF : all16 most (s.data.toList.take k) = F at *
    have HF := Kp.mk hF
    clear hF
    by_cases hlt : k < s.size
    · by_cases hkm : k = most
      · have HE := Kp.mk (HRA.out.stop hlt 4 (.inl ⟨hkm, rfl⟩))
        have t1 : ((k : Int) == (most : Int)) = true := i64b (by omega)
        clear hkm
        go_wp2_with fail
        exact bodyPost_ret (v := .tuple #[.slice a F.1.length c, .bool (decide (fr < k)), .int .i64 k, .int .i64 4]) (by simp [results, Try.results19, go_sem]) rfl (ReadPost.of_end HE.out (by rw [HF.out]; exact HOW.out) HBE.out _ rfl)
      · have t1 : ((k : Int) == (most : Int)) = false := i64n (by omega)
        have HKM := Kp.mk hkm
        clear hkm
        by_cases hfr : fr < k
        · have hk1 : k - 1 < s.size := by omega
          have HBT := Kp.mk (bt_at s (k - 1) hk1)
          have HBT2 := Kp.mk (bt_at s k hlt)
          obtain ⟨j, rfl⟩ : ∃ j, k = j + 1 := ⟨k - 1, by omega⟩
          have HCR := Kp.mk (show ((s[j].toNat : Int) == 13) = F.2.cr by
            have h1 := HBH.out
            rw [decide_eq_true hfr, Bool.true_and] at h1
            rw [← h1, Bool.eq_iff_iff, beq_iff_eq, beq_iff_eq]
            have h2 := HBT.out
            simp only [Nat.add_sub_cancel] at h2
            rw [h2]
            show _ ↔ bt s (j + 1 - 1) = 13
            rw [Nat.add_sub_cancel]; omega)
          have H10 := Kp.mk (show ((s[j + 1].toNat : Int) == 10) = (bt s (j + 1) == 10) by
            rw [HBT2.out, Bool.eq_iff_iff, beq_iff_eq, beq_iff_eq]; omega)
          cases h13 : ((s[j].toNat : Int) == 13)
          all_goals cases h10 : ((s[j + 1].toNat : Int) == 10)
          · have HM := Kp.mk (HRA.out.more hlt HKM.out (by rw [HF.out, ← HCR.out, h13]) (by have := H10.out; rw [h10] at this; exact fun e => by rw [e] at this; cases this))
            go_wp2_with fail
            go_roundw
            case rel => exact ⟨j + 1 + 1, fr, by go_num, rfl, HM.out.1, by rw [HM.out.2, HF.out]; exact HOW.out, HBE.out⟩
            case measure => simp [intOf]; omega
          · have HE := Kp.mk (HRA.out.stop hlt 8 (.inr ⟨HKM.out, by rw [HF.out, ← HCR.out, ← H10.out, h13, h10]; decide, rfl⟩))
            go_wp2_with fail
            exact bodyPost_ret (v := .tuple #[.slice a F.1.length c, .bool true, .int .i64 ((j : Int) + 1), .int .i64 8]) (by simp [results, Try.results19, go_sem]) rfl (ReadPost.of_end (i := j + 1) HE.out (by rw [HF.out]; exact HOW.out) HBE.out _ (decide_eq_true hfr).symm)
          · have HE := Kp.mk (HRA.out.stop hlt 8 (.inr ⟨HKM.out, by rw [HF.out, ← HCR.out, ← H10.out, h13, h10]; decide, rfl⟩))
            go_wp2_with fail
            exact bodyPost_ret (v := .tuple #[.slice a F.1.length c, .bool true, .int .i64 ((j : Int) + 1), .int .i64 8]) (by simp [results, Try.results19, go_sem]) rfl (ReadPost.of_end (i := j + 1) HE.out (by rw [HF.out]; exact HOW.out) HBE.out _ (decide_eq_true hfr).symm)
          · have HM := Kp.mk (HRA.out.line hlt HKM.out (by rw [HF.out, ← HCR.out, h13]) (by have := H10.out; rw [h10] at this; simpa using this.symm))
            have hlen : (F.1.length + 1) * 16 ≤ 140737488355328 := by omega
            have hmx : F.1.length + 1 ≤ maxLen := by unfold maxLen; omega
            have hx2 : w.heap.size ≤ wr.heap.size := hBs
            go_wp2_with (at_builtin; refine app_any rfl _ _ _ _ rfl Try.underlying22 _ _ _ Try.infoS rfl (by omega) w.heap.size _ _ _ rfl HOW.out _ rfl (fun u hu => by simp at hu; subst hu; rfl) _ rfl rfl hlen hmx hx2 ?_; intro g' cap' w' h1 h2 h3; have H1 := Kp.mk h1; have H2 := Kp.mk h2; clear h1 h2 h3)
            go_roundw
            case rel =>
              refine ⟨j + 1 + 1, j + 1 + 1, by go_num, by go_num, HM.out.1, ?_, ?_⟩
              · rw [HM.out.2.2, HF.out, List.length_append, List.map_append, List.map_cons, List.map_nil, svC_snoc, mkB_list]
                have h1 := H1.out
                simpa using h1
              · exact (HBE.out.alloc hBs _).grown H2.out (by simp; omega) fun k hk => (HOW.out.lt k hk).1
            case measure => simp [intOf]; omega
        · obtain rfl : fr = k := by omega
          have HBT2 := Kp.mk (bt_at s fr hlt)
          have HCR := Kp.mk (show F.2.cr = false by rw [← HBH.out]; simp)
          have H10 := Kp.mk (show ((s[fr].toNat : Int) == 10) = (bt s fr == 10) by
            rw [HBT2.out, Bool.eq_iff_iff, beq_iff_eq, beq_iff_eq]; omega)
          cases h10 : ((s[fr].toNat : Int) == 10)
          · have HM := Kp.mk (HRA.out.more hlt HKM.out (by rw [HF.out, HCR.out]) (by have := H10.out; rw [h10] at this; exact fun e => by rw [e] at this; cases this))
            go_wp2_with fail
            go_roundw
            case rel => exact ⟨fr + 1, fr, by go_num, rfl, HM.out.1, by rw [HM.out.2, HF.out]; exact HOW.out, HBE.out⟩
            case measure => simp [intOf]; omega
          · have HE := Kp.mk (HRA.out.stop hlt 8 (.inr ⟨HKM.out, by rw [HF.out, HCR.out, ← H10.out, h10]; decide, rfl⟩))
            go_wp2_with fail
            exact bodyPost_ret (v := .tuple #[.slice a F.1.length c, .bool false, .int .i64 (fr : Int), .int .i64 8]) (by simp [results, Try.results19, go_sem]) rfl (ReadPost.of_end (i := fr) HE.out (by rw [HF.out]; exact HOW.out) HBE.out _ (by simp))
    · obtain rfl : k = s.size := by omega
      have hta : s.data.toList.take s.size = s.data.toList := List.take_of_length_le (by simp)
      have HE := Kp.mk (show RefEnd most s s.size fr 0 F.1 by
        have h1 := HRA.out
        have h2 := h1.within
        have h3 := HF.out
        rw [hta] at h2 h3
        have h4 := h1.ok
        rw [hta] at h4
        have h5 := all16_spent most _ h4
        exact ⟨by rw [h3], h2, by rw [h5]; simp, h4⟩)
      clear hta
      go_wp2_with fail
      exact bodyPost_ret (v := .tuple #[.slice a F.1.length c, .bool (decide (fr < s.size)), .int .i64 (s.size : Int), .int .i64 0]) (by simp [results, Try.results19, go_sem]) rfl (ReadPost.of_end (i := s.size) HE.out HOW.out HBE.out _ rfl)
end Go.Proofs.Ytkdfhhhlmeknmaa
