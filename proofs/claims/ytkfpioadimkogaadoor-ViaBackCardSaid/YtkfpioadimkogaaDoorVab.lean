/- By whom a message came (layer 20): the pieces that Parse goes by, both sides. -/
import Derived.Test.YtkfpioadimkogaaDoorVaa
import Derived.Test.YtkfpioadimkogaaDoorHog
import Derived.Test.YtkfpioadimkogaaDoorPrc
import Derived.Laws.EntriesVeiled
import Derived.Handy
import Derived.Shelf.Strings.SlTrimAscii
namespace Go.Proofs.YtkfpioadimkogaaDoor
open Go.RowKit
set_option linter.unusedVariables false
set_option linter.unusedSimpArgs false

/-! ### IndexAny of a text of any octets, at signs of ASCII -/
structure IaAt (it pos : Nat) (s : ByteArray) (w wr : World) : Prop where
  it : wr.heap[it]? = some (.stringIter s pos)
  bel : Below w.heap.size w wr
def IaNo (s cs : ByteArray) (pos : Nat) : Prop := ∀ j, j < pos → j < s.size → cs.data.toList.contains (s.data.toList.getD j 0) = false
theorem iaNo_to {s cs : ByteArray} {pos : Nat} (h : IaNo s cs pos) : Lib.NoAny s.data.toList cs.data.toList pos := fun j b hj hb => by
  obtain ⟨h1, h2⟩ := List.getElem?_eq_some_iff.1 hb
  have := h j hj (by rw [ba_size]; exact h1)
  rwa [List.getD_eq_getElem?_getD, hb] at this
theorem ia_cont {cs : ByteArray} (ha : AscS cs) {b : UInt8} (hb : 128 ≤ b.toNat) : cs.data.toList.contains b = false := by
  cases h : cs.data.toList.contains b
  · rfl
  · have hm : b ∈ cs.data.toList := by simpa using h
    have := asc_mem ha hm
    omega
set_option maxRecDepth 100000 in
set_option maxHeartbeats 2000000 in
theorem idxAny_short (s cs : ByteArray) (w : World) (h2 : 2 ≤ cs.size) (h8 : s.size ≤ 8) (ha : AscS cs) (hz : cs.size ≤ 1000000) :
    Calls Tryd.prog 42 #[.string s, .string cs] w fun e w' => e = .returned (.int .i64 (Lib.indexAny s.data.toList cs.data.toList)) ∧ Below w.heap.size w w' := by
  have HA := Kp.mk ha
  clear ha
  obtain ⟨n1, n2⟩ := hs_nemp (x := cs) (by omega)
  have hn1 : ((cs.size : Int) == 1) = false := beq_eq_false_iff_ne.2 (by omega)
  have h8z : decide ((8 : Int) < (s.size : Int)) = false := decide_eq_false (by omega)
  go_enter Tryd.func42, Tryd.ntmps42
  go_wp2_with fail
  refine (Tryd.strings_shouldUseASCIISet _ _).mono ?_
  rintro e w1 ⟨rfl, rfl⟩
  rw [h8z]
  go_wp2_with fail
  go_loopw [9, 10] (fun _ _ wr => ∃ pos : Nat, IaAt w1.heap.size pos s w1 wr ∧ IaNo s cs pos) (fun _ _ wr => s.size - wr.iterPos w1.heap.size)
  case atStart => exact ⟨0, ⟨World.iter_heap _ _ _, (Below.refl _ _).alloc (Nat.le_refl _) _⟩, fun j h => by omega⟩
  case round =>
    obtain ⟨pos, hat, hno⟩ := hrel
    have HN := Kp.mk hno
    have HAT := Kp.mk hat
    have hit := hat.it
    have hmeas : wr.iterPos w1.heap.size = pos := by simp [World.iterPos, hit]
    have HM := Kp.mk hmeas
    have hlt0 : w1.heap.size < wr.heap.size := (Array.getElem?_eq_some_iff.1 hit).1
    clear hat hno
    by_cases hlt : pos < s.size
    · have hnx : ∀ ty, (Instr.next (.pointer (some ⟨w1.heap.size, 0, none⟩)) true ty).run Tryd.prog wr = _ := fun ty => Lib.run_next_any_at wr w1.heap.size s pos ty hit hlt
      have hnew : ∀ p w', Below (wr.iterAt w1.heap.size s p).heap.size (wr.iterAt w1.heap.size s p) w' → IaAt w1.heap.size p s w1 w' := by
        intro p w' hb
        have hs1 := Lib.iterAt_size wr w1.heap.size s p
        refine ⟨by rw [hb.block _ (by rw [hs1]; exact hlt0)]; exact Lib.iterAt_heap wr _ s pos p hit, ?_⟩
        exact (Lib.below_iterAt HAT.out.bel (Nat.le_refl _) s p).trans (hb.mono (by rw [hs1]; omega))
      have HNW := Kp.mk hnew
      clear hit hmeas hnew
      have hd2 := decode_le s pos
      have hxl : s.data.toList[pos]? = some s[pos] := Lib.data_getElem? s pos hlt
      by_cases hlow : bt s pos < 128
      · have hdec := dec_low s pos hlt hlow
        rw [hdec] at hnx
        have hbt := bt_at s pos hlt
        have HX := Kp.mk hxl
        have hback : ((bt s pos : Int)).toNat.toUInt8 = s[pos] := by rw [← hbt]; simp
        have hcon := Lib.contains_iff_indexByte cs.data.toList s[pos]
        clear hdec hd2 hbt hxl
        generalize s[pos] = x at *
        cases hin : cs.data.toList.contains x
        · rw [hin] at hcon
          have HI := Kp.mk hin
          have HC := Kp.mk (of_decide_eq_false hcon.symm : ¬ ((0 : Int) ≤ Lib.indexByte cs.data.toList x))
          have HBK := Kp.mk hback
          clear hcon hin hback
          go_wp2_with fail
          refine (Tryd.strings_IndexRune_ascii _ _ _ (by omega) (by omega)).mono ?_
          rintro e w2 ⟨rfl, rfl⟩
          rw [HBK.out]
          have hc := HC.out
          have HW := Kp.mk (HNW.out (pos + 1) _ (Below.refl _ _))
          go_wp2_with fail
          go_roundw
          case rel =>
            refine ⟨pos + 1, HW.out, fun j hj hj2 => ?_⟩
            by_cases hjk : j < pos
            · exact HN.out j hjk hj2
            · obtain rfl : j = pos := by omega
              rw [List.getD_eq_getElem?_getD, HX.out, Option.getD_some]; exact HI.out
          case measure =>
            have hi' := HW.out.it
            rw [HM.out]
            simp [World.iterPos, hi']
            omega
        · rw [hin] at hcon
          have HI := Kp.mk hin
          have HC := Kp.mk (of_decide_eq_true hcon.symm : ((0 : Int) ≤ Lib.indexByte cs.data.toList x))
          have HBK := Kp.mk hback
          clear hcon hin hback
          go_wp2_with fail
          refine (Tryd.strings_IndexRune_ascii _ _ _ (by omega) (by omega)).mono ?_
          rintro e w2 ⟨rfl, rfl⟩
          rw [HBK.out]
          have hc := HC.out
          have HW := Kp.mk (HNW.out (pos + 1) _ (Below.refl _ _))
          go_wp2_with fail
          go_ret
          exact ⟨ret_int (by rw [Lib.indexAny_hit (iaNo_to HN.out) HX.out HI.out]), HW.out.bel⟩
      · have hhi := dec_high s pos hlt (by omega)
        obtain ⟨hh1, hh2, hh3⟩ := hhi
        have hmax : (Utf8.decode s pos).1 ≤ 1114111 := Lib.rune_le s pos
        have HH := Kp.mk hh3
        clear hd2 hh3 hxl
        generalize Utf8.decode s pos = d at *
        obtain ⟨r, wd⟩ := d
        dsimp only at *
        go_wp2_with fail
        refine (idxRune_high cs r _ HA.out hz (by omega) (by omega)).mono ?_
        rintro e w2 ⟨rfl, hb⟩
        have HW := Kp.mk (HNW.out _ _ hb)
        clear hb
        go_wp2_with fail
        go_roundw
        case rel =>
          refine ⟨pos + wd, HW.out, fun j hj hj2 => ?_⟩
          by_cases hjk : j < pos
          · exact HN.out j hjk hj2
          · have := HH.out j (by omega) (by omega)
            have hg : s.data.toList[j]? = some s[j] := Lib.data_getElem? s j hj2
            rw [List.getD_eq_getElem?_getD, hg, Option.getD_some]
            exact ia_cont HA.out (by rw [bt_at s j hj2]; exact this.2)
        case measure =>
          have hi' := HW.out.it
          rw [HM.out]
          simp [World.iterPos, hi']
          omega
    · have hnx : ∀ ty, (Instr.next (.pointer (some ⟨w1.heap.size, 0, none⟩)) true ty).run Tryd.prog wr = _ := fun ty => Lib.run_next_end_at wr w1.heap.size s pos ty hit hlt
      clear hit hmeas
      go_wp2_with fail
      go_ret
      exact ⟨ret_int (by rw [Lib.indexAny_none (iaNo_to (fun j hj hj2 => HN.out j (by omega) hj2))]), HAT.out.bel⟩
theorem idxAny_any (s cs : ByteArray) (w : World) (h2 : 2 ≤ cs.size) (ha : AscS cs) (hz : cs.size ≤ 1000000) (hs : s.size ≤ 1000000) :
    Calls Tryd.prog 42 #[.string s, .string cs] w fun e w' => e = .returned (.int .i64 (Lib.indexAny s.data.toList cs.data.toList)) ∧ Below w.heap.size w w' := by
  by_cases h8 : s.size ≤ 8
  · exact idxAny_short s cs w h2 h8 ha hz
  · have h116 : (Tryd.prog.info? (Tryd.lays153_ren.t 116)).map (fun i => (i.zero, i.size)) = some (some (.agg (Array.replicate 256 (.bool false))), 256) := by kernel_rfl
    refine (Any.strings_IndexAny_long Tryd.lays153 (zero_of_info h116).1 (zero_of_info h116).2 s cs w h2 (by omega) (by omega) (by omega) (fun j b h => asc_mem ha (List.mem_of_getElem? h))).mono fun e w' ⟨h1, h2⟩ => ⟨h1, ?_⟩
    rw [h2]
    exact ((Below.refl _ _).alloc (Nat.le_refl _) _).alloc (by simp) _

/-! ### Blanks -/
def vaBl : ByteArray := ⟨#[32, 9]⟩
theorem vaBl_asc : AscS vaBl := fun j hj => by
  have e : ∀ j, j < 2 → bt vaBl j < 128 := by decide +kernel
  exact e j hj
theorem vaBl_con (b : UInt8) : vaBl.data.toList.contains b = blankN b.toNat := by
  have e : ∀ n : Nat, n < 256 → vaBl.data.toList.contains (UInt8.ofNat n) = blankN n := by decide +kernel
  have := e b.toNat (UInt8.toNat_lt b)
  simpa using this
theorem va_getE (s : ByteArray) (j : Nat) (b : UInt8) (h : s.data.toList[j]? = some b) : j < s.size ∧ b.toNat = bt s j := by
  obtain ⟨h1, h2⟩ := List.getElem?_eq_some_iff.1 h
  have h3 : j < s.size := by rw [ba_size]; exact h1
  exact ⟨h3, by rw [← h2, bt_list s j h3]⟩
theorem va_idx (s : ByteArray) : Lib.indexAny s.data.toList vaBl.data.toList = if preN vaNB s < s.size then (preN vaNB s : Int) else -1 := by
  have hno : Lib.NoAny s.data.toList vaBl.data.toList (preN vaNB s) := fun j b hj hb => by
    obtain ⟨h1, h2⟩ := va_getE s j b hb
    rw [vaBl_con, h2]
    have := preN_in hj
    unfold vaNB at this
    simpa using this
  by_cases h : preN vaNB s < s.size
  · rw [if_pos h]
    refine Lib.indexAny_hit hno (Lib.data_getElem? s _ h) ?_
    rw [vaBl_con, bt_at s _ h]
    exact va_blank.1 (preN_stop h)
  · rw [if_neg h]
    have := preN_le vaNB s
    have e : preN vaNB s = s.data.toList.length := by rw [← ba_size]; omega
    rw [e] at hno
    exact Lib.indexAny_none hno
theorem va_ia_any (s : ByteArray) (w : World) (hs : s.size ≤ 1000000) : Calls Tryd.prog 42 #[.string s, .string ⟨#[32, 9]⟩] w fun e w' => e = .returned (.int .i64 (if preN vaNB s < s.size then (preN vaNB s : Int) else -1)) ∧ Below w.heap.size w w' :=
  (idxAny_any s vaBl w (by decide) vaBl_asc (by decide) hs).mono fun _ _ h => ⟨by rw [h.1, va_idx], h.2⟩
theorem va_trim (s : ByteArray) : (⟨(Lib.trimLeftS s.data.toList vaBl.data.toList).toArray⟩ : ByteArray) = fromB s (preN blankN s) := ba_ext (by
  show Lib.trimLeftS s.data.toList vaBl.data.toList = _
  rw [fromB_list]
  refine Lib.trimLeftS_drop _ _ _ (by rw [← ba_size]; exact preN_le _ _) (fun j b hj hb => ?_) (fun b hb => ?_)
  · obtain ⟨h1, h2⟩ := va_getE s j b hb
    rw [vaBl_con, h2]; exact preN_in hj
  · obtain ⟨h1, h2⟩ := va_getE s _ b hb
    rw [vaBl_con, h2]; exact preN_stop h1)
theorem va_tl_any (s : ByteArray) (w : World) : Calls Tryd.prog 43 #[.string s, .string ⟨#[32, 9]⟩] w fun e w' => e = .returned (.string (fromB s (preN blankN s))) ∧ Below w.heap.size w w' :=
  (Any.strings_TrimLeft_laid Tryd.lays161 (by kernel_rfl) s vaBl w (by decide) (fun j b h => asc_mem vaBl_asc (List.mem_of_getElem? h))).mono fun _ _ h => ⟨by rw [h.1, va_trim], h.2⟩

/-! ### A comment -/
structure VaC (s : ByteArray) (p : Bool) (d e : Int) (h : Nat) (w W : World) : Prop where
  b0 : Bl W h 9 #[.string s]
  b1 : Bl W (h + 1) 4 #[.bool p]
  b2 : Bl W (h + 2) 3 #[.int .i64 d]
  b3 : Bl W (h + 3) 3 #[.int .i64 e]
  bel : Below h w W
theorem VaC.setP {s : ByteArray} {p : Bool} {d e : Int} {h : Nat} {w W : World} (H : VaC s p d e h w W) (q : Bool) : VaC s q d e h w (W.setCell ⟨h + 1, 0, none⟩ (.bool q)) :=
  ⟨H.b0.far (p := ⟨h + 1, 0, none⟩) (by show h ≠ h + 1; omega) _, H.b1.set 0 _, H.b2.far (p := ⟨h + 1, 0, none⟩) (by show h + 2 ≠ h + 1; omega) _, H.b3.far (p := ⟨h + 1, 0, none⟩) (by show h + 3 ≠ h + 1; omega) _, H.bel.setCell (p := ⟨h + 1, 0, none⟩) (by show h ≤ h + 1; omega) _⟩
theorem VaC.setD {s : ByteArray} {p : Bool} {d e : Int} {h : Nat} {w W : World} (H : VaC s p d e h w W) (q : Int) : VaC s p q e h w (W.setCell ⟨h + 2, 0, none⟩ (.int .i64 q)) :=
  ⟨H.b0.far (p := ⟨h + 2, 0, none⟩) (by show h ≠ h + 2; omega) _, H.b1.far (p := ⟨h + 2, 0, none⟩) (by show h + 1 ≠ h + 2; omega) _, H.b2.set 0 _, H.b3.far (p := ⟨h + 2, 0, none⟩) (by show h + 3 ≠ h + 2; omega) _, H.bel.setCell (p := ⟨h + 2, 0, none⟩) (by show h ≤ h + 2; omega) _⟩
theorem VaC.setE {s : ByteArray} {p : Bool} {d e : Int} {h : Nat} {w W : World} (H : VaC s p d e h w W) (q : Int) : VaC s p d q h w (W.setCell ⟨h + 3, 0, none⟩ (.int .i64 q)) :=
  ⟨H.b0.far (p := ⟨h + 3, 0, none⟩) (by show h ≠ h + 3; omega) _, H.b1.far (p := ⟨h + 3, 0, none⟩) (by show h + 1 ≠ h + 3; omega) _, H.b2.far (p := ⟨h + 3, 0, none⟩) (by show h + 2 ≠ h + 3; omega) _, H.b3.set 0 _, H.bel.setCell (p := ⟨h + 3, 0, none⟩) (by show h ≤ h + 3; omega) _⟩
/-- What one octet does to it. -/
def ceP (p : Bool) (c : Nat) : Bool := if p = true then false else decide (c = 92)
def ceD (p : Bool) (d : Int) (c : Nat) : Int := if p = true then d else if c = 40 then d + 1 else if c = 41 then d - 1 else d
def ceE (p : Bool) (d e : Int) (c k : Nat) : Int := if ceD p d c = 0 then (k : Int) else e
def CeT (s : ByteArray) (p : Bool) (d e : Int) (k : Nat) (h : Nat) (w : World) (en : Ending) (W : World) : Prop := en = .returned (.tuple #[]) ∧ VaC s (ceP p (bt s k)) (ceD p d (bt s k)) (ceE p d e (bt s k) k) h w W
theorem ce_to {s : ByteArray} {p : Bool} {d e : Int} {k h : Nat} {w W : World} {p' : Bool} {d' e' : Int} (h1 : ceP p (bt s k) = p') (h2 : ceD p d (bt s k) = d') (h3 : (if d' = 0 then (k : Int) else e) = e') (H : VaC s p' d' e' h w W) : CeT s p d e k h w (.returned (.tuple #[])) W := by
  unfold CeT ceE
  rw [h1, h2, h3]
  exact ⟨rfl, H⟩
set_option maxRecDepth 100000 in
set_option maxHeartbeats 4000000 in
theorem va_see_any (s : ByteArray) (p : Bool) (d e : Int) (k h : Nat) (w W : World) (H : VaC s p d e h w W) (hk : k < s.size) (hd : -1000000 ≤ d) (hd2 : d ≤ 1000000) (hs : s.size ≤ 1000000) :
    Calls Tryd.prog 88 #[.int .i64 (k : Int), .pointer (some ⟨h + 1, 0, none⟩), .pointer (some ⟨h, 0, none⟩), .pointer (some ⟨h + 2, 0, none⟩), .pointer (some ⟨h + 3, 0, none⟩)] W (CeT s p d e k h w) := by
  have HH := Kp.mk H
  have c0 := H.b0.cell 0
  have c1 := H.b1.cell 0
  have c2 := H.b2.cell 0
  have c3 := H.b3.cell 0
  have f1 := H.b1.free 0
  have f2 := H.b2.free 0
  have f3 := H.b3.free 0
  simp at c0 c1 c2 c3
  clear H
  have hx := bt_at s k hk
  have j1 : (0 : Int) ≤ (k : Int) := by omega
  have j2 : (k : Int) < (s.size : Int) := by omega
  have n0 : (h + 1 = h + 2) = False := by simp
  cases p
  · have hways : bt s k = 92 ∨ bt s k = 40 ∨ bt s k = 41 ∨ (bt s k ≠ 92 ∧ bt s k ≠ 40 ∧ bt s k ≠ 41) := by omega
    rcases hways with hc | hc | hc | ⟨g1, g2, g3⟩
    · rw [hc] at hx
      by_cases hz : d = 0
      · subst hz
        have E := Kp.mk (ce_to (d := 0) (e := e) (k := k) (show ceP false (bt s k) = true by rw [hc]; rfl) (show ceD false 0 (bt s k) = 0 by rw [hc]; rfl) (if_pos rfl) ((HH.out.setP true).setE k))
        clear hc
        go_enter Tryd.func88, Tryd.ntmps88
        go_wp2_with fail
        go_returns
        exact E.out
      · have hz2 : (d == 0) = false := beq_eq_false_iff_ne.2 hz
        have E := Kp.mk (ce_to (d := d) (e := e) (k := k) (show ceP false (bt s k) = true by rw [hc]; rfl) (show ceD false d (bt s k) = d by rw [hc]; rfl) (if_neg hz) (HH.out.setP true))
        clear hc hz
        go_enter Tryd.func88, Tryd.ntmps88
        go_wp2_with fail
        go_returns
        exact E.out
    · rw [hc] at hx
      by_cases hz : d + 1 = 0
      · obtain rfl : d = -1 := by omega
        have E := Kp.mk (ce_to (d := -1) (e := e) (k := k) (show ceP false (bt s k) = false by rw [hc]; rfl) (show ceD false (-1) (bt s k) = 0 by rw [hc]; rfl) (if_pos rfl) ((HH.out.setD 0).setE k))
        clear hc
        go_enter Tryd.func88, Tryd.ntmps88
        go_wp2_with fail
        go_returns
        exact E.out
      · have hz2 : (d + 1 == 0) = false := beq_eq_false_iff_ne.2 hz
        have E := Kp.mk (ce_to (d := d) (e := e) (k := k) (show ceP false (bt s k) = false by rw [hc]; rfl) (show ceD false d (bt s k) = d + 1 by rw [hc]; rfl) (if_neg hz) (HH.out.setD (d + 1)))
        clear hc hz
        go_enter Tryd.func88, Tryd.ntmps88
        go_wp2_with fail
        go_returns
        exact E.out
    · rw [hc] at hx
      by_cases hz : d - 1 = 0
      · obtain rfl : d = 1 := by omega
        have E := Kp.mk (ce_to (d := 1) (e := e) (k := k) (show ceP false (bt s k) = false by rw [hc]; rfl) (show ceD false 1 (bt s k) = 0 by rw [hc]; rfl) (if_pos rfl) ((HH.out.setD 0).setE k))
        clear hc
        go_enter Tryd.func88, Tryd.ntmps88
        go_wp2_with fail
        go_returns
        exact E.out
      · have hz2 : (d - 1 == 0) = false := beq_eq_false_iff_ne.2 hz
        have E := Kp.mk (ce_to (d := d) (e := e) (k := k) (show ceP false (bt s k) = false by rw [hc]; rfl) (show ceD false d (bt s k) = d - 1 by rw [hc]; rfl) (if_neg hz) (HH.out.setD (d - 1)))
        clear hc hz
        go_enter Tryd.func88, Tryd.ntmps88
        go_wp2_with fail
        go_returns
        exact E.out
    · have q1 : ((bt s k : Int) == 92) = false := beq_eq_false_iff_ne.2 (by omega)
      have q2 : ((bt s k : Int) == 40) = false := beq_eq_false_iff_ne.2 (by omega)
      have q3 : ((bt s k : Int) == 41) = false := beq_eq_false_iff_ne.2 (by omega)
      have e1 : ceP false (bt s k) = false := by unfold ceP; rw [if_neg (by simp)]; exact decide_eq_false g1
      have e2 : ceD false d (bt s k) = d := by unfold ceD; rw [if_neg (by simp), if_neg g2, if_neg g3]
      by_cases hz : d = 0
      · subst hz
        have E := Kp.mk (ce_to (d := 0) (e := e) (k := k) e1 e2 (if_pos rfl) (HH.out.setE k))
        clear g1 g2 g3 e1 e2
        go_enter Tryd.func88, Tryd.ntmps88
        go_wp2_with fail
        go_returns
        exact E.out
      · have hz2 : (d == 0) = false := beq_eq_false_iff_ne.2 hz
        have E := Kp.mk (ce_to (d := d) (e := e) (k := k) e1 e2 (if_neg hz) HH.out)
        clear g1 g2 g3 e1 e2 hz
        go_enter Tryd.func88, Tryd.ntmps88
        go_wp2_with fail
        go_returns
        exact E.out
  · by_cases hz : d = 0
    · subst hz
      have E := Kp.mk (ce_to (d := 0) (e := e) (k := k) (show ceP true (bt s k) = false from rfl) (show ceD true 0 (bt s k) = 0 from rfl) (if_pos rfl) ((HH.out.setP false).setE k))
      go_enter Tryd.func88, Tryd.ntmps88
      go_wp2_with fail
      go_returns
      exact E.out
    · have hz2 : (d == 0) = false := beq_eq_false_iff_ne.2 hz
      have E := Kp.mk (ce_to (d := d) (e := e) (k := k) (show ceP true (bt s k) = false from rfl) (show ceD true d (bt s k) = d from rfl) (if_neg hz) (HH.out.setP false))
      clear hz
      go_enter Tryd.func88, Tryd.ntmps88
      go_wp2_with fail
      go_returns
      exact E.out
end Go.Proofs.YtkfpioadimkogaaDoor
