/- Lines of fields (layer 9): Unfold and All, the program's: the loops. -/
import Derived.Test.YtcbfhlnnfnpkdaaGreatDoorFub
namespace Go.Proofs.YtcbfhlnnfnpkdaaGreatDoor
open Go.RowKit
set_option linter.unusedVariables false
set_option linter.unusedSimpArgs false

def RetU (fold : Int) (L : List ByteArray) (w : World) (e : Ending) (w' : World) : Prop :=
  ∃ v, e = .returned (.tuple #[v, .int .i64 (ufE fold L)]) ∧ w'.ownsRow w.heap.size 9 1 v (ufL fold L).length (svH (ufL fold L)) ∧ Below w.heap.size w w'
theorem own_lowF {W : World} {B B' : Nat} {e : TypeId} {sz n : Nat} {v : Value} {xs : List Value} (h : W.ownsRow B e sz v n xs) (hb : B' ≤ B) : W.ownsRow B' e sz v n xs := by
  refine ⟨h.1, ?_⟩
  rcases h.2 with h2 | ⟨g, cap, cur, rfl, h3, hg, rest⟩
  · exact .inl h2
  · exact .inr ⟨g, cap, cur, rfl, by omega, hg, rest⟩
set_option maxRecDepth 100000 in
set_option maxHeartbeats 4000000 in
theorem unfold_any (fold : Int) (v : Value) (L : List ByteArray) (w : World) (hv : RdS w v L) (hl : L.length ≤ 1000) (hz : ∀ s ∈ L, s.size ≤ 100000) :
    Calls Tryz.prog 77 #[.int .i64 fold, v] w (RetU fold L w) := by
  have HV := Kp.mk hv
  have HZ := Kp.mk hz
  obtain ⟨av, cv, rfl, -, -, -⟩ := hv
  have e1 : (w.alloc (.cells #[.int .i64 fold] 3)).heap.size = w.heap.size + 1 := World.size_alloc _ _
  have k1 := heap_alloc_new (w.alloc (.cells #[.int .i64 fold] 3)) (.cells #[.slice none 0 0] 24)
  rw [e1] at k1
  have HB0 := Kp.mk (((Below.refl w.heap.size w).alloc (Nat.le_refl _) (.cells #[.int .i64 fold] 3)).alloc (by rw [e1]; omega) (.cells #[.slice none 0 0] 24))
  have HU0 := Kp.mk (show UfB w.heap.size fold [] ((w.alloc (.cells #[.int .i64 fold] 3)).alloc (.cells #[.slice none 0 0] 24)) from ⟨blk_alloc (heap_alloc_new w _), _, k1, World.ownsRow_nil _ _ _ _⟩)
  clear hz k1 e1
  go_enter Tryz.func77, Tryz.ntmps77
  go_wp2_with fail
  go_loopw [13] (fun i wr => ∃ (k : Nat) (W : List ByteArray), k ≤ L.length ∧ i = .int .i64 k ∧ ufAt fold L k = some W ∧ UfB w.heap.size fold W wr ∧ Below w.heap.size w wr) (fun i _ => L.length - (intOf i).toNat)
  case atStart => exact ⟨0, [], by omega, rfl, rfl, HU0.out, HB0.out⟩
  case round =>
    obtain ⟨k, W, hk, rfl, hu, hU, hb⟩ := hrel
    have HU := Kp.mk hU
    have HB := Kp.mk hb
    have HAT := Kp.mk hu
    have hWl := ufAt_len hu
    have hWz := Kp.mk (fun x (hx : x ∈ W) => show x.size ≤ 1000000000 by
      have h1 := ufAt_sm HZ.out hu x hx
      have h2 : k * (100000 + 1) ≤ 1000 * (100000 + 1) := Nat.mul_le_mul_right _ (by omega)
      omega)
    clear hu hU hb
    by_cases hlt : k < L.length
    · obtain ⟨g, o, rfl, hgl, dd⟩ := rds_cells (HV.out.below HB.out) (by omega)
      have c1 := dd k hlt
      have m1 := HZ.out L[k] (List.getElem_mem hlt)
      have q0 : (0 : Int) ≤ (k : Int) := by omega
      have q1 : (k : Int) < (L.length : Int) := by omega
      have HST := Kp.mk (ufAt_step (fold := fold) hlt)
      rw [HAT.out] at HST
      clear dd
      generalize L[k] = s at *
      go_wp2_with fail
      refine (uf_add w.heap.size fold W s _ HU.out m1 (by omega) hWz.out).mono ?_
      rintro e w2 ⟨hb2, (⟨W', hs, rfl, hU2⟩ | ⟨hs, rfl⟩)⟩
      · have HU2 := Kp.mk hU2
        have HB2 := Kp.mk (HB.out.trans hb2)
        have HS2 := Kp.mk (HST.out.trans hs)
        clear hU2 hb2 hs c1
        go_wp2_with fail
        go_roundw
        case rel => exact ⟨k + 1, W', by omega, by go_num, HS2.out, HU2.out, HB2.out⟩
        case measure => simp [intOf]; omega
      · obtain ⟨u1, u2⟩ := uf_bad (HST.out.trans hs)
        have U1 := Kp.mk u1
        have U2 := Kp.mk u2
        have HB2 := Kp.mk (HB.out.trans hb2)
        clear hb2 hs u1 u2 c1
        go_wp2_with fail
        go_ret2
        exact ⟨.slice none 0 0, by rw [U2.out] <;> rfl, by rw [U1.out]; exact World.ownsRow_nil _ _ _ _, HB2.out⟩
    · obtain rfl : k = L.length := by omega
      obtain ⟨u1, u2⟩ := uf_good HAT.out
      have U1 := Kp.mk u1
      have U2 := Kp.mk u2
      clear u1 u2
      obtain ⟨cf, v, cw, own⟩ := HU.out
      obtain ⟨a3, c3, rfl⟩ := own_lenH own
      have OW := Kp.mk own
      have d1 := blk_cell (i := 0) cw rfl
      clear cf cw own
      go_wp2_with fail
      go_ret2
      exact ⟨.slice a3 W.length c3, by rw [U2.out] <;> rfl, by rw [U1.out]; exact own_lowF OW.out (by omega), HB.out⟩
/-! ### All -/
def fldOf (s : ByteArray) : Fld := (fldN s, fldV s)
def faE : List ByteArray → Int
  | [] => 0
  | s :: W => if fldE s = 0 then faE W else fldE s
def faL (W : List ByteArray) : List Fld := if faE W = 0 then W.map fldOf else []
def faP (W : List ByteArray) (k : Nat) : List Fld := (W.take k).map fldOf
theorem faE_hit : ∀ {W : List ByteArray} {k : Nat} (h : k < W.length), (∀ x ∈ W.take k, fldE x = 0) → fldE W[k] ≠ 0 → faE W = fldE W[k]
  | s :: W, 0, _, _, h2 => by
    show (if fldE s = 0 then _ else _) = _
    rw [if_neg (show ¬ fldE s = 0 from h2)]; rfl
  | s :: W, k + 1, h, h1, h2 => by
    show (if fldE s = 0 then _ else _) = _
    rw [if_pos (h1 s (by simp)), faE_hit (W := W) (k := k) (by simpa using h) (fun x hx => h1 x (by simp [hx])) h2]
    rfl
theorem faE_all : ∀ {W : List ByteArray}, (∀ x ∈ W, fldE x = 0) → faE W = 0
  | [], _ => rfl
  | s :: W, h => by
    show (if fldE s = 0 then _ else _) = _
    rw [if_pos (h s (by simp)), faE_all fun x hx => h x (by simp [hx])]
theorem fa_bad {W : List ByteArray} {k : Nat} (h : k < W.length) (h1 : ∀ x ∈ W.take k, fldE x = 0) (h2 : fldE W[k] ≠ 0) : faE W = fldE W[k] ∧ faL W = [] := by
  have e := faE_hit h h1 h2
  exact ⟨e, by unfold faL; rw [if_neg (by rw [e]; exact h2)]⟩
theorem fa_good {W : List ByteArray} {k : Nat} (hk : W.length ≤ k) (h1 : ∀ x ∈ W.take k, fldE x = 0) : faE W = 0 ∧ faL W = faP W k := by
  rw [List.take_of_length_le hk] at h1
  have e := faE_all h1
  exact ⟨e, by unfold faL faP; rw [if_pos e, List.take_of_length_le hk]⟩
theorem faP_step {W : List ByteArray} {k : Nat} (h : k < W.length) : faP W (k + 1) = faP W k ++ [fldOf W[k]] := by
  unfold faP
  rw [List.take_succ_eq_append_getElem h, List.map_append]; rfl
theorem faP_len (W : List ByteArray) (k : Nat) : (faP W k).length ≤ W.length := by unfold faP; rw [List.length_map, List.length_take]; omega
theorem fa_more {W : List ByteArray} {k : Nat} (h : k < W.length) (h1 : ∀ x ∈ W.take k, fldE x = 0) (h2 : fldE W[k] = 0) : ∀ x ∈ W.take (k + 1), fldE x = 0 := fun x hx => by
  rw [List.take_succ_eq_append_getElem h] at hx
  rcases List.mem_append.1 hx with hx | hx
  · exact h1 x hx
  · simp at hx; subst hx; exact h2
def afE (fold : Int) (L : List ByteArray) : Int := if ufE fold L = 0 then faE (ufL fold L) else ufE fold L
def afL (fold : Int) (L : List ByteArray) : List Fld := faL (ufL fold L)
def RetUA (fold : Int) (L : List ByteArray) (w : World) (e : Ending) (w' : World) : Prop :=
  ∃ v, e = .returned (.tuple #[v, .int .i64 (afE fold L)]) ∧ w'.ownsRow w.heap.size 67 2 v (afL fold L).length (fvH (afL fold L)) ∧ Below w.heap.size w w'
theorem ufL_len (fold : Int) (L : List ByteArray) : (ufL fold L).length ≤ L.length := by
  unfold ufL
  cases h : ufAt fold L L.length with
  | none => exact Nat.zero_le _
  | some W => exact ufAt_len h
theorem ufL_sm {fold : Int} {L : List ByteArray} (hl : L.length ≤ 1000) (hz : ∀ s ∈ L, s.size ≤ 900) : ∀ x ∈ ufL fold L, x.size ≤ 1000000 := by
  unfold ufL
  cases h : ufAt fold L L.length with
  | none => intro x hx; cases hx
  | some W =>
    intro x hx
    have h1 := ufAt_sm hz h x hx
    have h2 : L.length * (900 + 1) ≤ 1000 * (900 + 1) := Nat.mul_le_mul_right _ hl
    omega
theorem uf_ways (fold : Int) (L : List ByteArray) : ufE fold L = 0 ∨ (ufE fold L = 3 ∧ ufL fold L = []) := by
  unfold ufE ufL
  cases h : ufAt fold L L.length with
  | none => exact .inr ⟨rfl, rfl⟩
  | some W => exact .inl rfl
set_option maxRecDepth 100000 in
set_option maxHeartbeats 4000000 in
theorem fall_any (fold : Int) (v : Value) (L : List ByteArray) (w : World) (hv : RdS w v L) (hl : L.length ≤ 1000) (hz : ∀ s ∈ L, s.size ≤ 900) :
    Calls Tryz.prog 28 #[.int .i64 fold, v] w (RetUA fold L w) := by
  have HU := Kp.mk (unfold_any fold v L w hv hl (fun s hs => by have := hz s hs; omega))
  unfold RetU at HU
  have HZ := Kp.mk (ufL_sm (fold := fold) hl hz)
  have hln := ufL_len fold L
  have HW := Kp.mk (uf_ways fold L)
  have HE := Kp.mk (show afE fold L = if ufE fold L = 0 then faE (ufL fold L) else ufE fold L from rfl)
  have HL := Kp.mk (show afL fold L = faL (ufL fold L) from rfl)
  obtain ⟨av, cv, rfl, -, -, -⟩ := hv
  go_enter Tryz.func28, Tryz.ntmps28
  go_wp2_with fail
  refine HU.out.mono ?_
  rintro e w1 ⟨u, rfl, ho, hb⟩
  have HR := Kp.mk (rds_own ho)
  obtain ⟨a1, c1, rfl⟩ := own_lenH ho
  have HB1 := Kp.mk hb
  clear ho hb
  rcases HW.out with h0 | ⟨h0, h1⟩
  · rw [h0, if_pos rfl] at HE
    rw [h0]
    generalize ufL fold L = W at *
    clear HU HW h0
    have HO0 := Kp.mk (World.ownsRow_nil w1 w1.heap.size 67 2)
    go_wp2_with fail
    go_loopw [8, 24] (fun ov i wr => ∃ k : Nat, k ≤ W.length ∧ i = .int .i64 k ∧ (∀ x ∈ W.take k, fldE x = 0) ∧ wr.ownsRow w1.heap.size 67 2 ov (faP W k).length (fvH (faP W k)) ∧ Below w1.heap.size w1 wr) (fun _ i _ => W.length - (intOf i).toNat)
    case atStart => exact ⟨0, by omega, rfl, by simp, HO0.out, Below.refl _ _⟩
    case round =>
      obtain ⟨k, hk, rfl, hp, hown, hb⟩ := hrel
      obtain ⟨av, cv, rfl⟩ := own_lenH hown
      have HOW := Kp.mk hown
      have HB := Kp.mk hb
      have HBW := Kp.mk (HB1.out.trans (hb.mono HB1.out.size))
      have HP := Kp.mk hp
      have hle := faP_len W k
      clear hown hb hp
      by_cases hlt : k < W.length
      · obtain ⟨g, o, rfl, hgl, dd⟩ := rds_cells (HR.out.below HB.out) (by omega)
        have c1 := dd k hlt
        have m1 := HZ.out W[k] (List.getElem_mem hlt)
        have q0 : (0 : Int) ≤ (k : Int) := by omega
        have q1 : (k : Int) < (W.length : Int) := by omega
        have HST := Kp.mk (faP_step hlt)
        have HMO := Kp.mk (fa_more hlt HP.out)
        have HBAD := Kp.mk (fa_bad hlt HP.out)
        clear dd
        unfold fldOf at HST
        generalize W[k] = s at *
        have FP := Kp.mk (fun w => fparse_any s w m1)
        unfold FldRet at FP
        generalize fldN s = fn at *
        generalize fldV s = fv at *
        generalize hE : fldE s = fe at *
        generalize hQ : faP W k = Q at *
        have hlen : (Q.length + 1) * 32 ≤ 140737488355328 := by omega
        have hmx : Q.length + 1 ≤ maxLen := by unfold maxLen; omega
        go_wp2_with fail
        refine (FP.out _).mono ?_
        rintro e w2 ⟨rfl, hb2⟩
        have HB2 := Kp.mk (HB.out.trans (hb2.mono HB.out.size))
        have HO2 := Kp.mk ((own_bel HOW.out hb2).alloc (.cells #[.string fn, .string fv] 67))
        have HBX := Kp.mk (HB2.out.alloc HB2.out.size (.cells #[.string fn, .string fv] 67))
        have hszX : w1.heap.size ≤ (w2.alloc (.cells #[.string fn, .string fv] 67)).heap.size := HBX.out.size
        clear hb2 c1
        by_cases h0 : fe = 0
        · subst h0
          have HMO2 := Kp.mk (HMO.out rfl)
          go_wp2_with (at_builtin; refine app_any rfl _ _ _ _ rfl Tryz.underlying27 _ _ _ Tryz.infoFH rfl (by omega) w1.heap.size _ _ _ rfl HO2.out #[.string fn, .string fv] rfl (fun u hu => by simp at hu; rcases hu with rfl | rfl <;> rfl) (w2.heap.size + 1) (by simp) rfl hlen hmx hszX ?_; intro g' cap' w' h1 h2 h3; have G1 := Kp.mk h1; have G2 := Kp.mk (grown_bel HO2.out hszX h2); clear h1 h2 h3)
          go_roundw
          case rel =>
            refine ⟨k + 1, by omega, by go_num, HMO2.out, ?_, HBX.out.trans G2.out⟩
            rw [HST.out, List.length_append, fvH_snoc]
            exact G1.out
          case measure => simp [intOf]; omega
        · obtain ⟨b1, b2⟩ := HBAD.out h0
          have HE2 := Kp.mk (HE.out.trans b1)
          have HL2 := Kp.mk (HL.out.trans b2)
          have HBE := Kp.mk (HB1.out.trans (HBX.out.mono HB1.out.size))
          have q7 : (fe != 0) = true := by rw [bne_iff_ne]; exact h0
          clear b1 b2
          go_wp2_with fail
          go_ret2
          exact ⟨.slice none 0 0, by rw [HE2.out] <;> rfl, by rw [HL2.out]; exact World.ownsRow_nil _ _ _ _, HBE.out⟩
      · obtain ⟨b1, b2⟩ := fa_good (show W.length ≤ k by omega) HP.out
        have HE2 := Kp.mk (HE.out.trans b1)
        have HL2 := Kp.mk (HL.out.trans b2)
        clear b1 b2
        generalize faP W k = Q at *
        go_wp2_with fail
        go_ret2
        exact ⟨.slice av Q.length cv, by rw [HE2.out] <;> rfl, by rw [HL2.out]; exact own_lowF HOW.out HB1.out.size, HBW.out⟩
  · have HE2 := Kp.mk (show afE fold L = 3 by rw [HE.out, if_neg (by rw [h0]; decide), h0])
    have HL2 := Kp.mk (show afL fold L = [] by rw [HL.out, h1]; rfl)
    rw [h0]
    clear h0 h1 HU HW
    go_wp2_with fail
    go_ret2
    exact ⟨.slice none 0 0, by rw [HE2.out] <;> rfl, by rw [HL2.out]; exact World.ownsRow_nil _ _ _ _, HB1.out⟩
end Go.Proofs.YtcbfhlnnfnpkdaaGreatDoor
