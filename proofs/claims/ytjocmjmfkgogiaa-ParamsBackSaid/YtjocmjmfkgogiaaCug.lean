/- Texts read from their beginning: texts that are quoted. -/
import Derived.Test.YtjocmjmfkgogiaaCuf
import Derived.Lib.AppendStr
namespace Go.Proofs.Ytjocmjmfkgogiaa
open Go.RowKit
set_option linter.unusedVariables false
set_option linter.unusedSimpArgs false

theorem own_block {w w' : World} {base : Nat} {e : TypeId} {size : Nat} {v : Value} {n : Nat} {xs : List Value} (h : w.ownsRow base e size v n xs) (hb : ∀ g, v.ownBlock = some g → w'.heap[g]? = w.heap[g]?) : w'.ownsRow base e size v n xs := by
  obtain ⟨h1, h2⟩ := h
  refine ⟨h1, ?_⟩
  rcases h2 with h2 | ⟨g, cap, cur, rfl, hg, hh, r⟩
  · exact .inl h2
  · exact .inr ⟨g, cap, cur, rfl, hg, by rw [hb g rfl]; exact hh, r⟩
theorem own_iter {w : World} {base : Nat} {e : TypeId} {size : Nat} {v : Value} {n k pos : Nat} {s : ByteArray} {xs : List Value} (h : w.ownsRow base e size v n xs) (hk : w.heap[k]? = some (.stringIter s pos)) : v.ownBlock ≠ some k := by
  rcases h.2 with ⟨rfl, _⟩ | ⟨g, cap, cur, rfl, hg, hh, r⟩
  · simp [Value.ownBlock]
  · intro he
    have : g = k := by simpa [Value.ownBlock] using he
    subst this
    rw [hh] at hk; cases hk

/-- A text's octets more behind a row of the call's own. -/
theorem app_str {P : Program} {wr : World} {ops : Array Oper} {rest : List Oper} {o : Oper} {a : Act} {Q : Exit → Act → World → Prop} (hgd : o.guard = none) (s x : Operand) (t u e : TypeId)
    (ho : o.op = .call { callee := .builtin .append, args := #[s, x], argTypes := #[t, u] }) (ht : P.underlying t = some (.slice e)) (hu : P.underlying u = some .string)
    (hi : (P.info? e).map (fun i => (i.zero, i.size, i.bytes)) = some (some (.int .u8 0), 1, 1)) (B : Nat) (v : Value) (l : List UInt8) (hs : a.eval s = v) (hown : wr.ownsRow B e 1 v l.length (bv l))
    (y : ByteArray) (hx : a.eval x = .string y) (hlen : l.length + y.size ≤ 140737488355328) (hB : B ≤ wr.heap.size)
    (h : ∀ v' w', w'.ownsRow B e 1 v' (l ++ y.data.toList).length (bv (l ++ y.data.toList)) → Below B wr w' → wr.grownBy w' v.ownBlock → wpList P ops Q rest (a.put o.dst v') w') :
    wpList P ops Q (o :: rest) a wr := by
  obtain ⟨i0, hi, hz0, hz1, hz2⟩ := info_parts hi
  refine Lib.wpList_append_own_string _ hgd s x t u ho B e i0 ht hu hi hz0 hz1 hz2 v l.length (bv l) hs hown y hx (by unfold maxLen; omega) hlen hB ?_
  intro v' w' h1 h2 _
  refine h v' w' ?_ ((Below.refl B wr).grown h2 hB fun k hk => (hown.lt k hk).1) h2
  rw [List.length_append, ← ba_size, bv_append]
  exact h1

theorem escL_append (l m : List UInt8) : escL (l ++ m) = escL l ++ escL m := by simp [escL]
theorem escL_plain : ∀ m : List UInt8, (∀ c ∈ m, ¬ (c.toNat = 34 ∨ c.toNat = 92)) → escL m = m
  | [], _ => rfl
  | c :: m, h => by
    have h1 : escL (c :: m) = escC c ++ escL m := by simp [escL]
    rw [h1, escC_one (h c (by simp)), escL_plain m (fun d hd => h d (by simp [hd]))]
    rfl

/-- What Quote has written when it stands at pos, the last sign before which it wrote one standing at fr. -/
def QuoAt (s : ByteArray) (l : List UInt8) (fr pos : Nat) : Prop := fr ≤ pos ∧ pos ≤ s.size ∧ l.length ≤ 2 * fr + 2 ∧ l ++ (s.data.toList.take pos).drop fr = 34 :: escL (s.data.toList.take pos)
theorem quoAt_start (s : ByteArray) : QuoAt s [34] 0 0 := ⟨by omega, by omega, by simp, by simp [escL]⟩
theorem take_more (s : ByteArray) (pos wd : Nat) : s.data.toList.take (pos + wd) = s.data.toList.take pos ++ (s.data.toList.drop pos).take wd := by rw [List.take_add]
theorem quoAt_plain {s : ByteArray} {l : List UInt8} {fr pos wd : Nat} (h : QuoAt s l fr pos) (hw : pos + wd ≤ s.size) (hp : ∀ j, pos ≤ j → j < pos + wd → ¬ (bt s j = 34 ∨ bt s j = 92)) : QuoAt s l fr (pos + wd) := by
  obtain ⟨h1, h2, h3, h4⟩ := h
  refine ⟨by omega, hw, h3, ?_⟩
  have hseg : ∀ c ∈ (s.data.toList.drop pos).take wd, ¬ (c.toNat = 34 ∨ c.toNat = 92) := by
    intro c hc
    obtain ⟨j, hj, rfl⟩ := List.getElem_of_mem hc
    have hj2 : j < wd := by simp at hj; omega
    have hj3 : pos + j < s.size := by simp at hj; omega
    have := hp (pos + j) (by omega) (by omega)
    rw [← bt_list s (pos + j) hj3] at this
    simpa using this
  rw [take_more, escL_append, escL_plain _ hseg, List.drop_append_of_le_length (by rw [List.length_take, ← ba_size]; omega), ← List.append_assoc, h4]
  simp
theorem quoAt_sign {s : ByteArray} {l : List UInt8} {fr pos : Nat} (h : QuoAt s l fr pos) (hw : pos < s.size) (hp : bt s pos = 34 ∨ bt s pos = 92) : QuoAt s (l ++ (s.extract fr pos).data.toList ++ [92]) pos (pos + 1) := by
  obtain ⟨h1, h2, h3, h4⟩ := h
  have he : (s.extract fr pos).data.toList = (s.data.toList.take pos).drop fr := by rw [Lib.extract_data, List.drop_take]
  refine ⟨by omega, by omega, ?_, ?_⟩
  · have e1 : ((s.data.toList.take pos).drop fr).length = pos - fr := by rw [List.length_drop, List.length_take, ← ba_size, Nat.min_eq_left h2]
    have e2 := congrArg List.length h4
    rw [List.length_append, e1, List.length_cons] at e2
    have e3 := escL_len (s.data.toList.take pos)
    rw [List.length_take, ← ba_size, Nat.min_eq_left h2] at e3
    simp only [List.length_append, he, e1, List.length_singleton]
    omega
  · have hts := take_snoc s pos hw
    rw [he, h4, hts, escL_snoc, escC_two (by rw [bt_at]; exact hp), List.drop_append_of_le_length (by rw [List.length_take, ← ba_size]; omega), List.drop_of_length_le (by rw [List.length_take, ← ba_size]; omega)]
    simp
theorem quoAt_end {s : ByteArray} {l : List UInt8} {fr : Nat} (h : QuoAt s l fr s.size) : l ++ (s.extract fr s.size).data.toList ++ [34] = 34 :: escL s.data.toList ++ [34] := by
  obtain ⟨h1, h2, h3, h4⟩ := h
  have ht : s.data.toList.take s.size = s.data.toList := List.take_of_length_le (by rw [← ba_size]; omega)
  rw [ht] at h4
  rw [Lib.extract_to_end, h4]

set_option maxRecDepth 100000 in
set_option maxHeartbeats 4000000 in
theorem cur_quote (s : ByteArray) (w : World) (hs : s.size ≤ 35184372088832) :
    Calls Try.prog 62 #[.string s] w fun e w' => e = .returned (.tuple #[.string (quoteS s), .bool (quoteOk s)]) ∧ Below w.heap.size w w' := by
  cases ht : tokenB s
  · cases hv : allB valueB s
    · have HT := Lib.hid ht
      have HV := Lib.hid hv
      have HQ := Lib.hid (quoteS_no ht hv)
      clear ht hv
      go_enter Try.func62, Try.ntmps62
      go_wp2_with fail
      refine (oct_token_any _ _ (by unfold maxLen; omega)).mono ?_
      rintro e w1 ⟨rfl, hb1⟩
      rw [HT.out]
      go_wp2_with fail
      refine (oct_value_any _ _ (by unfold maxLen; omega)).mono ?_
      rintro e w2 ⟨rfl, hb2⟩
      rw [HV.out]
      go_wp2_with fail
      go_ret2
      exact ⟨by rw [HQ.out.1, HQ.out.2]; rfl, below_thn hb1 hb2⟩
    · have HT := Lib.hid ht
      have HV := Lib.hid hv
      have HQ := Lib.hid (quoteS_yes ht hv)
      clear ht hv
      go_enter Try.func62, Try.ntmps62
      go_wp2_with fail
      refine (oct_token_any _ _ (by unfold maxLen; omega)).mono ?_
      rintro e w1 ⟨rfl, hb1⟩
      rw [HT.out]
      go_wp2_with fail
      refine (oct_value_any _ _ (by unfold maxLen; omega)).mono ?_
      rintro e w2 ⟨rfl, hb2⟩
      rw [HV.out]
      have HB2 := Lib.hid (below_thn hb1 hb2)
      clear hb1 hb2
      go_wp2_with fail
      go_loopw [4, 5] (fun v f wr => ∃ (pos fr : Nat) (l : List UInt8), f = .int .i64 fr ∧ wr.heap[w2.heap.size + 1]? = some (.stringIter s pos) ∧ Below w2.heap.size w2 wr ∧ wr.ownsRow w2.heap.size 5 1 v l.length (bv l) ∧ QuoAt s l fr pos) (fun _ _ wr => s.size - wr.iterPos (w2.heap.size + 1))
      case atStart =>
        refine ⟨0, 0, [34], rfl, by have := World.iter_heap (w2.alloc (.cells #[.int .u8 34] 5)) s 0; simpa using this, ?_, ?_, quoAt_start s⟩
        · exact ((Below.refl _ _).alloc (Nat.le_refl _) _).alloc (by simp) _
        · have h1 := World.ownsRow_lit (base := w2.heap.size) (e := 5) (size := 1) w2 #[.int .u8 34] 1 (Nat.le_refl _) (by unfold maxLen; omega) rfl
          exact h1.alloc _
      case round =>
        obtain ⟨pos, fr, l, rfl, hit, hbel, hown, hq⟩ := hrel
        have HB := Lib.hid hbel
        have HI := Lib.hid hit
        have HK := Lib.hid hq
        have hmeas : wr.iterPos (w2.heap.size + 1) = pos := by simp [World.iterPos, hit]
        have HM := Lib.hid hmeas
        have hlt0 : w2.heap.size + 1 < wr.heap.size := (Array.getElem?_eq_some_iff.1 hit).1
        have hfr : fr ≤ pos := hq.1
        have hpos : pos ≤ s.size := hq.2.1
        have hll : l.length ≤ 2 * fr + 2 := hq.2.2.1
        by_cases hlt : pos < s.size
        · have hnx : ∀ ty, (Instr.next (.pointer (some ⟨w2.heap.size + 1, 0, none⟩)) true ty).run Try.prog wr = _ := fun ty => Lib.run_next_any_at wr (w2.heap.size + 1) s pos ty hit hlt
          have step : ∀ p, (wr.iterAt (w2.heap.size + 1) s p).heap[w2.heap.size + 1]? = some (.stringIter s p) ∧ Below w2.heap.size w2 (wr.iterAt (w2.heap.size + 1) s p) ∧ (wr.iterAt (w2.heap.size + 1) s p).ownsRow w2.heap.size 5 1 u4 l.length (bv l) ∧ (wr.iterAt (w2.heap.size + 1) s p).heap.size = wr.heap.size := fun p =>
            ⟨Lib.iterAt_heap wr _ s pos p HI.out, Lib.below_iterAt HB.out (by omega) s p, own_block hown (fun g hg => Lib.iterAt_other wr _ g s p (fun e => own_iter hown HI.out (by rw [hg, e]))), Lib.iterAt_size wr _ s p⟩
          have HS := Lib.hid step
          clear hmeas hbel hit hq step hown
          by_cases hsp : bt s pos = 34 ∨ bt s pos = 92
          · have hdec := dec_low s pos hlt (by omega)
            rw [hdec] at hnx
            obtain ⟨hi', hb', hown', hz'⟩ := HS.out (pos + 1)
            have HN := Lib.hid (quoAt_sign HK.out hlt hsp)
            have HI' := Lib.hid hi'
            have HB' := Lib.hid hb'
            have hw' : w2.heap.size ≤ (wr.iterAt (w2.heap.size + 1) s (pos + 1)).heap.size := by rw [hz']; omega
            have HZ' := Lib.hid hz'
            have hes : (s.extract fr pos).size = pos - fr := by rw [ba_size, Lib.extract_data, List.length_take, List.length_drop, ← ba_size]; omega
            clear hdec hi' hb' hz'
            generalize hW : wr.iterAt (w2.heap.size + 1) s (pos + 1) = W at *
            have HWe := Lib.hid hW
            clear hW
            rcases hsp with hsp | hsp
            all_goals
              rw [hsp] at hnx
              clear hsp
              go_wp2_with (first
                | (at_builtin; refine app_str rfl _ _ _ _ _ rfl Try.underlying76 Try.underlying9 Try.infoB w2.heap.size _ l rfl hown' (s.extract fr pos) rfl (by omega) hw' ?_
                   intro v3 w3 hown3 hb3 hg3
                   have HG3 := Lib.hid (show w3.heap[w2.heap.size + 1]? = some (.stringIter s (pos + 1)) by rw [hg3.block _ (by have := HZ'.out; omega) (fun e => own_iter hown' HI'.out e.symm)]; exact HI'.out)
                   have HB3 := Lib.hid hb3
                   have hw3 : w2.heap.size ≤ w3.heap.size := Nat.le_trans hw' hb3.size
                   clear hb3 hg3
                   have hl3 : (l ++ (s.extract fr pos).data.toList).length ≤ 105553116266496 := by rw [List.length_append, ← ba_size]; omega)
                | (at_builtin; refine app_byte rfl _ _ _ _ rfl Try.underlying76 Try.infoB w2.heap.size _ _ rfl hown3 92 _ rfl rfl (by omega) hw3 ?_; intro v4 w4 hown4 hb4 hg4))
              have HG4 := Lib.hid (show w4.heap[w2.heap.size + 1]? = some (.stringIter s (pos + 1)) by
                rw [hg4.block _ (by have := (Array.getElem?_eq_some_iff.1 HG3.out).1; simp; omega) (fun e => own_iter hown3 HG3.out e.symm)]
                rw [Below.heap_alloc _ _ _ (Array.getElem?_eq_some_iff.1 HG3.out).1]
                exact HG3.out)
              go_roundw
              case rel => exact ⟨pos + 1, pos, _, rfl, HG4.out, (HB'.out.trans HB3.out).trans hb4, hown4, HN.out⟩
              case measure =>
                rw [HM.out]
                simp only [World.iterPos, HG4.out]
                omega
          · have hrest : ∃ r wd, Utf8.decode s pos = (r, wd) ∧ 1 ≤ wd ∧ pos + wd ≤ s.size ∧ ((r : Int) == 34) = false ∧ ((r : Int) == 92) = false ∧ ∀ j, pos ≤ j → j < pos + wd → ¬ (bt s j = 34 ∨ bt s j = 92) := by
              by_cases hlow : bt s pos < 128
              · refine ⟨_, _, dec_low s pos hlt hlow, Nat.le_refl _, by omega, ?_, ?_, fun j h1 h2 => ?_⟩
                · rw [beq_eq_false_iff_ne]; omega
                · rw [beq_eq_false_iff_ne]; omega
                · obtain rfl : j = pos := by omega
                  exact hsp
              · obtain ⟨d1, d2, d3⟩ := dec_high s pos hlt (by omega)
                have dl := decode_le s pos
                refine ⟨(Utf8.decode s pos).1, (Utf8.decode s pos).2, rfl, d2, ?_, ?_, ?_, fun j h1 h2 => ?_⟩
                · have := (d3 (pos + ((Utf8.decode s pos).2 - 1)) (by omega) (by omega)).1; omega
                · rw [beq_eq_false_iff_ne]; omega
                · rw [beq_eq_false_iff_ne]; omega
                · have := (d3 j h1 h2).2; omega
            obtain ⟨r, wd, hdec, hwd, hpw, e1, e2, hpl⟩ := hrest
            rw [hdec] at hnx
            obtain ⟨hi', hb', hown', hz'⟩ := HS.out (pos + wd)
            have HN := Lib.hid (quoAt_plain HK.out hpw hpl)
            have HI' := Lib.hid hi'
            have HB' := Lib.hid hb'
            have HO' := Lib.hid hown'
            clear hdec hi' hb' hz' hpl hown' hsp
            generalize hW : wr.iterAt (w2.heap.size + 1) s (pos + wd) = W at *
            have HWe := Lib.hid hW
            clear hW
            go_wp2_with fail
            go_roundw
            case rel => exact ⟨pos + wd, fr, l, rfl, HI'.out, HB'.out, HO'.out, HN.out⟩
            case measure =>
              rw [HM.out]
              simp only [World.iterPos, HI'.out]
              omega
        · have hnx : ∀ ty, (Instr.next (.pointer (some ⟨w2.heap.size + 1, 0, none⟩)) true ty).run Try.prog wr = _ := fun ty => Lib.run_next_end_at wr (w2.heap.size + 1) s pos ty hit hlt
          have hpe : pos = s.size := by omega
          have HE := Lib.hid (quoAt_end (by rw [← hpe]; exact HK.out))
          have hes : (s.extract fr s.size).size = s.size - fr := by rw [ba_size, Lib.extract_to_end, List.length_drop, ← ba_size]
          have hw' : w2.heap.size ≤ wr.heap.size := by omega
          clear hmeas hbel hit hq hpe
          go_wp2_with (first
            | (at_builtin; refine app_str rfl _ _ _ _ _ rfl Try.underlying76 Try.underlying9 Try.infoB w2.heap.size _ l rfl hown (s.extract fr s.size) rfl (by omega) hw' ?_
               intro v3 w3 hown3 hb3 hg3
               have HB3 := Lib.hid hb3
               have hw3 : w2.heap.size ≤ w3.heap.size := Nat.le_trans hw' hb3.size
               clear hb3 hg3
               have hl3 : (l ++ (s.extract fr s.size).data.toList).length ≤ 105553116266496 := by rw [List.length_append, ← ba_size]; omega)
            | (at_builtin; refine app_byte rfl _ _ _ _ rfl Try.underlying76 Try.infoB w2.heap.size _ _ rfl hown3 34 _ rfl rfl (by omega) hw3 ?_; intro v4 w4 hown4 hb4 hg4; have hcv := own_string (src := 76) (dst := 9) Try.underlying76 Try.underlying5 Try.underlying9 hown4))
          go_ret2
          refine ⟨by rw [HQ.out.1, HQ.out.2, ← HE.out, Lib.extract_data, List.append_assoc]; rfl, ?_⟩
          exact below_thn HB2.out (((HB.out.trans HB3.out).trans hb4))
  · have HT := Lib.hid ht
    have HQ := Lib.hid (quoteS_tok ht)
    clear ht
    go_enter Try.func62, Try.ntmps62
    go_wp2_with fail
    refine (oct_token_any _ _ (by unfold maxLen; omega)).mono ?_
    rintro e w1 ⟨rfl, hb1⟩
    rw [HT.out]
    go_wp2_with fail
    go_ret2
    exact ⟨by rw [HQ.out.1, HQ.out.2]; rfl, hb1⟩
end Go.Proofs.Ytjocmjmfkgogiaa
