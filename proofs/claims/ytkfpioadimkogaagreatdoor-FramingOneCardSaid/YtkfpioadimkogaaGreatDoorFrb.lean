/- Framing (layer 23): requests and responses, on both sides. -/
import Derived.Test.YtkfpioadimkogaaGreatDoorFra
namespace Go.Proofs.YtkfpioadimkogaaGreatDoor
open Go.RowKit
set_option linter.unusedVariables false
set_option linter.unusedSimpArgs false

def nmHost : ByteArray := ⟨#[72, 111, 115, 116]⟩
def nmHost2 : ByteArray := ⟨#[104, 111, 115, 116]⟩
theorem hAll_host2 (l : List Fld) : hAll l nmHost2 = hAll l nmHost := hAll_fold (by decide +kernel) l
def unR (V : List ByteArray) : Bool := V.any fun s => hsE s != 0
theorem unR_take {V : List ByteArray} {k : Nat} (h : k < V.length) : unR (V.take (k + 1)) = (unR (V.take k) || (hsE V[k] != 0)) := by
  unfold unR
  rw [List.take_succ_eq_append_getElem h, List.any_append]
  simp
theorem unR_hit {V : List ByteArray} {k : Nat} (h : k < V.length) (hf : (hsE V[k] != 0) = true) : unR V = true := List.any_eq_true.2 ⟨_, List.getElem_mem h, hf⟩
theorem hsRet_form (s : ByteArray) : ∃ a b, hsRet s = .tuple #[.string a, .int .i64 b, .int .i64 (hsE s)] := ⟨_, _, rfl⟩
theorem un1_any (s : ByteArray) (w : World) (hs : s.size ≤ 1000000) : Calls Tryz.prog 69 #[.string s] w fun e w' => e = .returned (.bool (hsE s != 0)) ∧ Below w.heap.size w w' := by
  obtain ⟨a, b, h⟩ := hsRet_form s
  have HP := Kp.mk (fun w => hs_parse_any s w hs)
  rw [h] at HP
  generalize hsE s = e0 at *
  clear h
  go_enter Tryz.func69, Tryz.ntmps69
  go_wp2_with fail
  refine (HP.out _).mono ?_
  rintro e w1 ⟨rfl, hb⟩
  go_wp2_with fail
  go_ret
  exact ⟨rfl, hb⟩
def IduPost (V : List ByteArray) (w : World) (e : Ending) (w' : World) : Prop := ∃ r : Int, e = .returned (.int .i64 r) ∧ decide (0 ≤ r) = unR V ∧ Below w.heap.size w w'
set_option maxRecDepth 100000 in
set_option maxHeartbeats 2000000 in
theorem ixu_any (v : Value) (V : List ByteArray) (w : World) (hv : RdS w v V) (hz : ∀ s ∈ V, s.size ≤ 1000000) (hl : V.length ≤ 1000000) :
    Calls Tryz.prog 114 #[v, .func (.func 69) #[] #[]] w (IduPost V w) := by
  have HV := Kp.mk hv
  have HZ := Kp.mk hz
  obtain ⟨a, cap, rfl, hc1, hc2, -⟩ := hv
  clear hz hc2
  go_enter Tryz.func114, Tryz.ntmps114
  go_wp2_with fail
  go_loopw [8] (fun i wr => ∃ k : Nat, k ≤ V.length ∧ i = .int .i64 k ∧ unR (V.take k) = false ∧ Below w.heap.size w wr) (fun i _ => V.length - (intOf i).toNat)
  case atStart => exact ⟨0, by omega, rfl, rfl, Below.refl _ _⟩
  case round =>
    obtain ⟨k, hk, rfl, hh, hb⟩ := hrel
    have HB := Kp.mk hb
    have HH := Kp.mk hh
    have hsz := hb.size
    clear hh hb
    by_cases hlt : k < V.length
    · obtain ⟨g, o, rfl, hgl, d0⟩ := rds_cells (HV.out.below HB.out) (by omega)
      have c1 := d0 k hlt
      have m1 := HZ.out V[k] (List.getElem_mem hlt)
      have q0 : (0 : Int) ≤ (k : Int) := by omega
      have q1 : (k : Int) < (V.length : Int) := by omega
      have HT := Kp.mk (unR_take hlt)
      have HHit := Kp.mk (fun h => unR_hit hlt h)
      clear d0
      generalize V[k] = x at *
      have UN := Kp.mk (fun w => un1_any x w m1)
      generalize (hsE x != 0) = ub at *
      go_wp2_with fail
      refine (UN.out _).mono ?_
      rintro e w2 ⟨rfl, hb2⟩
      have HB2 := Kp.mk (HB.out.trans (hb2.mono hsz))
      clear hb2
      cases ub
      · have HT2 := Kp.mk (show unR (V.take (k + 1)) = false by rw [HT.out, HH.out]; rfl)
        go_wp2_with fail
        go_roundw
        case rel => exact ⟨k + 1, by omega, by go_num, HT2.out, HB2.out⟩
        case measure => simp [intOf]; omega
      · have HT2 := Kp.mk (HHit.out rfl)
        go_wp2_with fail
        go_ret
        exact ⟨_, rfl, by rw [HT2.out]; exact decide_eq_true (by omega), HB2.out⟩
    · have HK := Kp.mk (show unR V = false by have := HH.out; rwa [List.take_of_length_le (by omega)] at this)
      go_wp2_with fail
      go_ret
      exact ⟨-1, rfl, by rw [HK.out]; rfl, HB.out⟩
theorem cou_any (v : Value) (V : List ByteArray) (w : World) (hv : RdS w v V) (hz : ∀ s ∈ V, s.size ≤ 1000000) (hl : V.length ≤ 1000000) :
    Calls Tryz.prog 71 #[v, .func (.func 69) #[] #[]] w fun e w' => e = .returned (.bool (unR V)) ∧ Below w.heap.size w w' := by
  have HV := Kp.mk hv
  have HZ := Kp.mk hz
  clear hv hz
  go_enter Tryz.func71, Tryz.ntmps71
  go_wp2_with fail
  refine (ixu_any v V _ HV.out HZ.out hl).mono ?_
  rintro e w1 ⟨r, rfl, hr, hb⟩
  have HR := Kp.mk hr
  clear hr
  go_wp2_with fail
  go_ret
  exact ⟨by rw [← HR.out]; rfl, hb⟩
/-- P23.2. -/
def rqB (V : List ByteArray) (mi : Int) : Bool := (decide (0 < mi) && decide (V.length ≠ 1)) || (decide (1 < V.length) || unR V)
def rqR (l : List Fld) (mi : Int) : Int × Int × Int := if rqB (hAll l nmHost) mi = true then (0, 0, 13) else ((sdR l mi).1, (sdR l mi).2.1, (sdR l mi).2.2.2)
theorem rqB_many {V : List ByteArray} {mi : Int} (h : 1 < V.length) : rqB V mi = true := by unfold rqB; rw [decide_eq_true h, Bool.true_or, Bool.or_true]
theorem rqB_noneY {mi : Int} (h : 0 < mi) : rqB [] mi = true := by unfold rqB; rw [decide_eq_true h]; rfl
theorem rqB_noneN {mi : Int} (h : ¬ 0 < mi) : rqB [] mi = false := by unfold rqB; rw [decide_eq_false h]; rfl
theorem rqB_one {mi : Int} {s : ByteArray} : rqB [s] mi = (hsE s != 0) := by
  unfold rqB unR
  have e1 : decide ([s].length ≠ 1) = false := by simp
  have e2 : decide (1 < [s].length) = false := by simp
  rw [e1, e2, Bool.and_false, Bool.false_or, Bool.false_or]
  simp
theorem rqR_bad {l : List Fld} {mi : Int} (h : rqB (hAll l nmHost) mi = true) : rqR l mi = (0, 0, 13) := by unfold rqR; rw [if_pos h]
theorem rqR_ok {l : List Fld} {mi : Int} (h : rqB (hAll l nmHost) mi = false) : rqR l mi = ((sdR l mi).1, (sdR l mi).2.1, (sdR l mi).2.2.2) := by unfold rqR; rw [if_neg (by rw [h]; decide)]
/-! ### Bodiless; responses -/
def bdB (st : Int) (m : ByteArray) : Bool := (m.toList == [72, 69, 65, 68]) || ((decide (100 ≤ st) && decide (st ≤ 199)) || ((st == 204) || (st == 304)))
set_option maxHeartbeats 2000000 in
theorem bodl_any (st : Int) (m : ByteArray) (w : World) : Calls Tryz.prog 29 #[.int .i64 st, .string m] w fun e w' => e = .returned (.bool (bdB st m)) ∧ w = w' := by
  have H := Kp.mk (show bdB st m = ((m.toList == [72, 69, 65, 68]) || ((decide (100 ≤ st) && decide (st ≤ 199)) || ((st == 204) || (st == 304)))) from rfl)
  generalize bdB st m = B at *
  by_cases hm : m.toList = [72, 69, 65, 68]
  · have hm2 : (m.toList == [72, 69, 65, 68]) = true := by rw [beq_iff_eq]; exact hm
    replace H := Kp.mk (show B = true by rw [H.out, hm2]; rfl)
    go_enter Tryz.func29, Tryz.ntmps29
    go_wp2_with fail
    go_ret
    exact ⟨by rw [H.out] <;> rfl, rfl⟩
  · have hm2 : (m.toList == [72, 69, 65, 68]) = false := by rw [beq_eq_false_iff_ne]; exact hm
    by_cases h1 : 100 ≤ st ∧ st ≤ 199
    · obtain ⟨h1, h2⟩ := h1
      have h3 : st < 200 := by omega
      replace H := Kp.mk (show B = true by rw [H.out, hm2, decide_eq_true h1, decide_eq_true h2]; rfl)
      go_enter Tryz.func29, Tryz.ntmps29
      go_wp2_with fail
      go_ret
      exact ⟨by rw [H.out] <;> rfl, rfl⟩
    · have h2 : (decide (100 ≤ st) && decide (st ≤ 199)) = false := by
        rw [Bool.and_eq_false_iff]
        by_cases q : 100 ≤ st
        · exact .inr (decide_eq_false (by omega))
        · exact .inl (decide_eq_false q)
      by_cases h4 : st = 204
      · subst h4
        replace H := Kp.mk (show B = true by rw [H.out, hm2]; rfl)
        go_enter Tryz.func29, Tryz.ntmps29
        go_wp2_with fail
        go_ret
        exact ⟨by rw [H.out] <;> rfl, rfl⟩
      · by_cases h5 : st = 304
        · subst h5
          replace H := Kp.mk (show B = true by rw [H.out, hm2]; rfl)
          go_enter Tryz.func29, Tryz.ntmps29
          go_wp2_with fail
          go_ret
          exact ⟨by rw [H.out] <;> rfl, rfl⟩
        · have b4 : (st == 204) = false := by rw [beq_eq_false_iff_ne]; exact h4
          have b5 : (st == 304) = false := by rw [beq_eq_false_iff_ne]; exact h5
          replace H := Kp.mk (show B = false by rw [H.out, hm2, h2, b4, b5]; rfl)
          by_cases q : 100 ≤ st
          · have q2 : ¬ st ≤ 199 := by omega
            have q3 : ¬ st < 200 := by omega
            go_enter Tryz.func29, Tryz.ntmps29
            go_wp2_with fail
            go_ret
            exact ⟨by rw [H.out] <;> rfl, rfl⟩
          · go_enter Tryz.func29, Tryz.ntmps29
            go_wp2_with fail
            go_ret
            exact ⟨by rw [H.out] <;> rfl, rfl⟩
set_option maxHeartbeats 2000000 in
theorem rbodl_any (st : Int) (m : ByteArray) (w : World) : Calls Tryz.prog 30 #[.int .i64 st, .string m] w fun e w' => e = .returned (.bool (bdB st m)) ∧ w = w' := by
  have H := Kp.mk (show bdB st m = ((m.toList == [72, 69, 65, 68]) || ((decide (100 ≤ st) && decide (st ≤ 199)) || ((st == 204) || (st == 304)))) from rfl)
  generalize bdB st m = B at *
  by_cases hm : m.toList = [72, 69, 65, 68]
  · have hm2 : (m.toList == [72, 69, 65, 68]) = true := by rw [beq_iff_eq]; exact hm
    replace H := Kp.mk (show B = true by rw [H.out, hm2]; rfl)
    go_enter Tryz.func30, Tryz.ntmps30
    go_wp2_with fail
    go_ret
    exact ⟨by rw [H.out] <;> rfl, rfl⟩
  · have hm2 : (m.toList == [72, 69, 65, 68]) = false := by rw [beq_eq_false_iff_ne]; exact hm
    by_cases h1 : 100 ≤ st ∧ st ≤ 199
    · obtain ⟨h1, h2⟩ := h1
      have h3 : st < 200 := by omega
      replace H := Kp.mk (show B = true by rw [H.out, hm2, decide_eq_true h1, decide_eq_true h2]; rfl)
      go_enter Tryz.func30, Tryz.ntmps30
      go_wp2_with fail
      go_ret
      exact ⟨by rw [H.out] <;> rfl, rfl⟩
    · have h2 : (decide (100 ≤ st) && decide (st ≤ 199)) = false := by
        rw [Bool.and_eq_false_iff]
        by_cases q : 100 ≤ st
        · exact .inr (decide_eq_false (by omega))
        · exact .inl (decide_eq_false q)
      by_cases h4 : st = 204
      · subst h4
        replace H := Kp.mk (show B = true by rw [H.out, hm2]; rfl)
        go_enter Tryz.func30, Tryz.ntmps30
        go_wp2_with fail
        go_ret
        exact ⟨by rw [H.out] <;> rfl, rfl⟩
      · by_cases h5 : st = 304
        · subst h5
          replace H := Kp.mk (show B = true by rw [H.out, hm2]; rfl)
          go_enter Tryz.func30, Tryz.ntmps30
          go_wp2_with fail
          go_ret
          exact ⟨by rw [H.out] <;> rfl, rfl⟩
        · have b4 : (st == 204) = false := by rw [beq_eq_false_iff_ne]; exact h4
          have b5 : (st == 304) = false := by rw [beq_eq_false_iff_ne]; exact h5
          replace H := Kp.mk (show B = false by rw [H.out, hm2, h2, b4, b5]; rfl)
          by_cases q : 100 ≤ st
          · have q2 : ¬ st ≤ 199 := by omega
            have q3 : ¬ st < 200 := by omega
            go_enter Tryz.func30, Tryz.ntmps30
            go_wp2_with fail
            go_ret
            exact ⟨by rw [H.out] <;> rfl, rfl⟩
          · go_enter Tryz.func30, Tryz.ntmps30
            go_wp2_with fail
            go_ret
            exact ⟨by rw [H.out] <;> rfl, rfl⟩
/-- P23.3. -/
def rsF (S : Int × Int × Bool × Int) (b : Bool) : Int × Int × Int := if S.2.2.2 ≠ 0 ∨ b = true then (0, 0, S.2.2.2) else if S.2.2.1 = true then (S.1, S.2.1, 0) else (3, 0, 0)
def rsR (l : List Fld) (mi st : Int) (m : ByteArray) : Int × Int × Int := rsF (sdR l mi) (bdB st m)
theorem sdF_ways (c : Bool) (ce mi : Int) (k : Nat) (n : Int) (has : Bool) (f : Int) : (∃ e, sdF c ce mi k n has f = (0, 0, false, e)) ∨ ∃ q m, q ≠ 0 ∧ sdF c ce mi k n has f = (q, m, true, 0) := by
  unfold sdF
  split
  · exact .inl ⟨_, rfl⟩
  · split
    · split
      · exact .inl ⟨_, rfl⟩
      · exact .inr ⟨2, 0, by decide, rfl⟩
    · split
      · exact .inl ⟨_, rfl⟩
      · split
        · exact .inr ⟨1, n, by decide, rfl⟩
        · exact .inl ⟨_, rfl⟩
theorem sdR_ways (l : List Fld) (mi : Int) : (∃ e, sdR l mi = (0, 0, false, e)) ∨ ∃ q m, q ≠ 0 ∧ sdR l mi = (q, m, true, 0) := sdF_ways _ _ _ _ _ _ _
set_option maxRecDepth 100000 in
set_option maxHeartbeats 8000000 in
theorem freq_any (M T R : ByteArray) (mi st : Int) (v : Value) (l : List Fld) (w : World) (hv : RdF w v l) (hF : FewF l) :
    Calls Tryz.prog 25 #[.agg #[.string M, .string T, .int .i64 mi, .int .i64 st, .string R, v]] w fun e w' => e = .returned (.tuple #[.agg #[.int .i64 (rqR l mi).1, .int .i64 (rqR l mi).2.1], .int .i64 (rqR l mi).2.2]) ∧ Below w.heap.size w w' := by
  have HV := Kp.mk hv
  have hl := hF.len
  have HSM := Kp.mk (hAll_sm nmHost hF.sm)
  have HAL := Kp.mk (fun w hv => hall_any v l nmHost w hv hF.sm (by omega) (by decide))
  have HSD := Kp.mk (fun w hv => said_any M T R mi st v l w hv hF)
  unfold RetS at HAL
  have HBD := Kp.mk (fun q => rqR_bad (l := l) (mi := mi) q)
  have HOK := Kp.mk (fun q => rqR_ok (l := l) (mi := mi) q)
  obtain ⟨ad, cap, rfl, -, -, -⟩ := hv
  have hcl := hAll_len l nmHost
  generalize hAll l nmHost = V at *
  generalize rqR l mi = S at *
  generalize sdR l mi = Z at *
  obtain ⟨zk, zn, zb, ze⟩ := Z
  dsimp only at HSD HOK
  have HB := Kp.mk (Bx2.new w 33 37 (hdC M T mi st R (.slice ad l.length cap)) #[.int .i64 0, .int .i64 0])
  unfold hdC at HB
  have d0 := blk_cell (i := 0) HB.out.b1 rfl
  have d1 := blk_cell (i := 1) HB.out.b1 rfl
  have d2 := blk_cell (i := 2) HB.out.b1 rfl
  have d3 := blk_cell (i := 3) HB.out.b1 rfl
  have d4 := blk_cell (i := 4) HB.out.b1 rfl
  have d5 := blk_cell (i := 5) HB.out.b1 rfl
  have r0 := blk_cell (i := 0) HB.out.b2 rfl
  have r1 := blk_cell (i := 1) HB.out.b2 rfl
  have f0 := blk_free (i := 0) HB.out.b2
  have f1 := blk_free (i := 1) HB.out.b2
  go_enter Tryz.func25, Tryz.ntmps25
  go_wp2_with fail
  refine (HAL.out _ (HV.out.below HB.out.bel)).mono ?_
  rintro e w9 ⟨u, rfl, ho, hb9⟩
  replace HB := Kp.mk (HB.out.call hb9)
  have HR := Kp.mk (rds_own ho)
  clear hb9 d0 d1 d2 d3 d4 d5 r0 r1 f0 f1
  have d0 := blk_cell (i := 0) HB.out.b1 rfl
  have d1 := blk_cell (i := 1) HB.out.b1 rfl
  have d2 := blk_cell (i := 2) HB.out.b1 rfl
  have d3 := blk_cell (i := 3) HB.out.b1 rfl
  have d4 := blk_cell (i := 4) HB.out.b1 rfl
  have d5 := blk_cell (i := 5) HB.out.b1 rfl
  have r0 := blk_cell (i := 0) HB.out.b2 rfl
  have r1 := blk_cell (i := 1) HB.out.b2 rfl
  have f0 := blk_free (i := 0) HB.out.b2
  have f1 := blk_free (i := 1) HB.out.b2
  rcases V with _ | ⟨s, _ | ⟨s2, V2⟩⟩
  · obtain ⟨a1, c1, rfl⟩ := own_lenH ho
    clear ho
    by_cases hm : 0 < mi
    · have HS := Kp.mk (HBD.out (rqB_noneY hm))
      go_wp2_with fail
      have HZ := HB.out.put (.int .i64 0) (.int .i64 0)
      have z0 := blk_cell (i := 0) HZ.b2 rfl
      have z1 := blk_cell (i := 1) HZ.b2 rfl
      exact bodyPost_ret (v := .tuple #[.agg #[.int .i64 0, .int .i64 0], .int .i64 13]) (by simp [results, Tryz.results25, go_sem, z0, z1]) rfl ⟨by rw [HS.out], HZ.bel⟩
    · have HS := Kp.mk (HOK.out (rqB_noneN hm))
      have HU := Kp.mk (show unR [] = false from rfl)
      go_wp2_with fail
      refine (cou_any _ [] _ HR.out (fun x hx => by cases hx) (by simp)).mono ?_
      rintro e w9 ⟨rfl, hb9⟩
      replace HB := Kp.mk (HB.out.call hb9)
      clear hb9 d0 d1 d2 d3 d4 d5 r0 r1 f0 f1
      rw [HU.out]
      have d0 := blk_cell (i := 0) HB.out.b1 rfl
      have d1 := blk_cell (i := 1) HB.out.b1 rfl
      have d2 := blk_cell (i := 2) HB.out.b1 rfl
      have d3 := blk_cell (i := 3) HB.out.b1 rfl
      have d4 := blk_cell (i := 4) HB.out.b1 rfl
      have d5 := blk_cell (i := 5) HB.out.b1 rfl
      have r0 := blk_cell (i := 0) HB.out.b2 rfl
      have r1 := blk_cell (i := 1) HB.out.b2 rfl
      have f0 := blk_free (i := 0) HB.out.b2
      have f1 := blk_free (i := 1) HB.out.b2
      go_wp2_with fail
      refine (HSD.out _ (HV.out.below HB.out.bel)).mono ?_
      rintro e w9 ⟨rfl, hb9⟩
      replace HB := Kp.mk (HB.out.call hb9)
      clear hb9 d0 d1 d2 d3 d4 d5 r0 r1 f0 f1
      have d0 := blk_cell (i := 0) HB.out.b1 rfl
      have d1 := blk_cell (i := 1) HB.out.b1 rfl
      have d2 := blk_cell (i := 2) HB.out.b1 rfl
      have d3 := blk_cell (i := 3) HB.out.b1 rfl
      have d4 := blk_cell (i := 4) HB.out.b1 rfl
      have d5 := blk_cell (i := 5) HB.out.b1 rfl
      have r0 := blk_cell (i := 0) HB.out.b2 rfl
      have r1 := blk_cell (i := 1) HB.out.b2 rfl
      have f0 := blk_free (i := 0) HB.out.b2
      have f1 := blk_free (i := 1) HB.out.b2
      go_wp2_with fail
      have HZ := HB.out.put (.int .i64 zk) (.int .i64 zn)
      have z0 := blk_cell (i := 0) HZ.b2 rfl
      have z1 := blk_cell (i := 1) HZ.b2 rfl
      exact bodyPost_ret (v := .tuple #[.agg #[.int .i64 zk, .int .i64 zn], .int .i64 ze]) (by simp [results, Tryz.results25, go_sem, z0, z1]) rfl ⟨by rw [HS.out], HZ.bel⟩
  · obtain ⟨gu, cu, rfl⟩ := own_some ho (by simp)
    have c9 := own_cellsS ho 0 (by simp)
    have glt := (ho.lt gu rfl).2
    clear ho
    rw [Nat.add_zero] at c9
    simp only [List.getElem_cons_zero] at c9
    have q9 : ¬ (0 < mi ∧ [s].length ≠ 1) := by simp
    have hsz := HSM.out s (by simp)
    have H1 := Kp.mk (rqB_one (mi := mi) (s := s))
    have HU := Kp.mk (show unR [s] = (hsE s != 0) by unfold unR; simp)
    cases hE : (hsE s != 0)
    all_goals
      rw [hE] at H1 HU
      clear hE
    · have HS := Kp.mk (HOK.out H1.out)
      by_cases hm : 0 < mi
      all_goals
        go_wp2_with fail
        refine (cou_any _ [s] _ HR.out (fun x hx => by have := HSM.out x hx; omega) (by simp)).mono ?_
        rintro e w9 ⟨rfl, hb9⟩
        replace HB := Kp.mk (HB.out.call hb9)
        clear hb9 c9 d0 d1 d2 d3 d4 d5 r0 r1 f0 f1
        rw [HU.out]
        have d0 := blk_cell (i := 0) HB.out.b1 rfl
        have d1 := blk_cell (i := 1) HB.out.b1 rfl
        have d2 := blk_cell (i := 2) HB.out.b1 rfl
        have d3 := blk_cell (i := 3) HB.out.b1 rfl
        have d4 := blk_cell (i := 4) HB.out.b1 rfl
        have d5 := blk_cell (i := 5) HB.out.b1 rfl
        have r0 := blk_cell (i := 0) HB.out.b2 rfl
        have r1 := blk_cell (i := 1) HB.out.b2 rfl
        have f0 := blk_free (i := 0) HB.out.b2
        have f1 := blk_free (i := 1) HB.out.b2
        go_wp2_with fail
        refine (HSD.out _ (HV.out.below HB.out.bel)).mono ?_
        rintro e w9 ⟨rfl, hb9⟩
        replace HB := Kp.mk (HB.out.call hb9)
        clear hb9 d0 d1 d2 d3 d4 d5 r0 r1 f0 f1
        have d0 := blk_cell (i := 0) HB.out.b1 rfl
        have d1 := blk_cell (i := 1) HB.out.b1 rfl
        have d2 := blk_cell (i := 2) HB.out.b1 rfl
        have d3 := blk_cell (i := 3) HB.out.b1 rfl
        have d4 := blk_cell (i := 4) HB.out.b1 rfl
        have d5 := blk_cell (i := 5) HB.out.b1 rfl
        have r0 := blk_cell (i := 0) HB.out.b2 rfl
        have r1 := blk_cell (i := 1) HB.out.b2 rfl
        have f0 := blk_free (i := 0) HB.out.b2
        have f1 := blk_free (i := 1) HB.out.b2
        go_wp2_with fail
        have HZ := HB.out.put (.int .i64 zk) (.int .i64 zn)
        have z0 := blk_cell (i := 0) HZ.b2 rfl
        have z1 := blk_cell (i := 1) HZ.b2 rfl
        exact bodyPost_ret (v := .tuple #[.agg #[.int .i64 zk, .int .i64 zn], .int .i64 ze]) (by simp [results, Tryz.results25, go_sem, z0, z1]) rfl ⟨by rw [HS.out], HZ.bel⟩
    · have HS := Kp.mk (HBD.out H1.out)
      by_cases hm : 0 < mi
      all_goals
        go_wp2_with fail
        refine (cou_any _ [s] _ HR.out (fun x hx => by have := HSM.out x hx; omega) (by simp)).mono ?_
        rintro e w9 ⟨rfl, hb9⟩
        replace HB := Kp.mk (HB.out.call hb9)
        clear hb9 c9 d0 d1 d2 d3 d4 d5 r0 r1 f0 f1
        rw [HU.out]
        have d0 := blk_cell (i := 0) HB.out.b1 rfl
        have d1 := blk_cell (i := 1) HB.out.b1 rfl
        have d2 := blk_cell (i := 2) HB.out.b1 rfl
        have d3 := blk_cell (i := 3) HB.out.b1 rfl
        have d4 := blk_cell (i := 4) HB.out.b1 rfl
        have d5 := blk_cell (i := 5) HB.out.b1 rfl
        have r0 := blk_cell (i := 0) HB.out.b2 rfl
        have r1 := blk_cell (i := 1) HB.out.b2 rfl
        have f0 := blk_free (i := 0) HB.out.b2
        have f1 := blk_free (i := 1) HB.out.b2
        go_wp2_with fail
        have HZ := HB.out.put (.int .i64 0) (.int .i64 0)
        have z0 := blk_cell (i := 0) HZ.b2 rfl
        have z1 := blk_cell (i := 1) HZ.b2 rfl
        exact bodyPost_ret (v := .tuple #[.agg #[.int .i64 0, .int .i64 0], .int .i64 13]) (by simp [results, Tryz.results25, go_sem, z0, z1]) rfl ⟨by rw [HS.out], HZ.bel⟩
  · have HS := Kp.mk (HBD.out (rqB_many (by simp)))
    obtain ⟨a1, c1, rfl⟩ := own_lenH ho
    have hn : (s :: s2 :: V2).length ≤ 50 := by omega
    have hn1 : (1 : Int) < ((s :: s2 :: V2).length : Int) := by simp; omega
    have hn2 : (((s :: s2 :: V2).length : Int) != 1) = true := by rw [bne_iff_ne]; omega
    clear ho
    generalize (s :: s2 :: V2).length = nv at *
    by_cases hm : 0 < mi
    · go_wp2_with fail
      have HZ := HB.out.put (.int .i64 0) (.int .i64 0)
      have z0 := blk_cell (i := 0) HZ.b2 rfl
      have z1 := blk_cell (i := 1) HZ.b2 rfl
      exact bodyPost_ret (v := .tuple #[.agg #[.int .i64 0, .int .i64 0], .int .i64 13]) (by simp [results, Tryz.results25, go_sem, z0, z1]) rfl ⟨by rw [HS.out], HZ.bel⟩
    · go_wp2_with fail
      have HZ := HB.out.put (.int .i64 0) (.int .i64 0)
      have z0 := blk_cell (i := 0) HZ.b2 rfl
      have z1 := blk_cell (i := 1) HZ.b2 rfl
      exact bodyPost_ret (v := .tuple #[.agg #[.int .i64 0, .int .i64 0], .int .i64 13]) (by simp [results, Tryz.results25, go_sem, z0, z1]) rfl ⟨by rw [HS.out], HZ.bel⟩
set_option maxRecDepth 100000 in
set_option maxHeartbeats 8000000 in
theorem rfreq_any (M T R : ByteArray) (mi st : Int) (v : Value) (l : List Fld) (w : World) (hv : RdF w v l) (hF : FewF l) :
    Calls Tryz.prog 26 #[.agg #[.string M, .string T, .int .i64 mi, .int .i64 st, .string R, v]] w fun e w' => e = .returned (.tuple #[.agg #[.int .i64 (rqR l mi).1, .int .i64 (rqR l mi).2.1], .int .i64 (rqR l mi).2.2]) ∧ Below w.heap.size w w' := by
  have HV := Kp.mk hv
  have hl := hF.len
  have HSM := Kp.mk (hAll_sm nmHost hF.sm)
  have HAL := Kp.mk (fun w hv => rhall_any v l nmHost2 w hv hF.sm (by omega) (by decide))
  have HSD := Kp.mk (fun w hv => rsaid_any M T R mi st v l w hv hF)
  unfold RetS at HAL
  rw [hAll_host2] at HAL
  have HBD := Kp.mk (fun q => rqR_bad (l := l) (mi := mi) q)
  have HOK := Kp.mk (fun q => rqR_ok (l := l) (mi := mi) q)
  obtain ⟨ad, cap, rfl, -, -, -⟩ := hv
  have hcl := hAll_len l nmHost
  generalize hAll l nmHost = V at *
  generalize rqR l mi = S at *
  generalize sdR l mi = Z at *
  obtain ⟨zk, zn, zb, ze⟩ := Z
  dsimp only at HSD HOK
  have HB := Kp.mk (Bx2.new w 33 37 (hdC M T mi st R (.slice ad l.length cap)) #[.int .i64 0, .int .i64 0])
  unfold hdC at HB
  have d0 := blk_cell (i := 0) HB.out.b1 rfl
  have d1 := blk_cell (i := 1) HB.out.b1 rfl
  have d2 := blk_cell (i := 2) HB.out.b1 rfl
  have d3 := blk_cell (i := 3) HB.out.b1 rfl
  have d4 := blk_cell (i := 4) HB.out.b1 rfl
  have d5 := blk_cell (i := 5) HB.out.b1 rfl
  have r0 := blk_cell (i := 0) HB.out.b2 rfl
  have r1 := blk_cell (i := 1) HB.out.b2 rfl
  have f0 := blk_free (i := 0) HB.out.b2
  have f1 := blk_free (i := 1) HB.out.b2
  go_enter Tryz.func26, Tryz.ntmps26
  go_wp2_with fail
  refine (HAL.out _ (HV.out.below HB.out.bel)).mono ?_
  rintro e w9 ⟨u, rfl, ho, hb9⟩
  replace HB := Kp.mk (HB.out.call hb9)
  have HR := Kp.mk (rds_own ho)
  clear hb9 d0 d1 d2 d3 d4 d5 r0 r1 f0 f1
  have d0 := blk_cell (i := 0) HB.out.b1 rfl
  have d1 := blk_cell (i := 1) HB.out.b1 rfl
  have d2 := blk_cell (i := 2) HB.out.b1 rfl
  have d3 := blk_cell (i := 3) HB.out.b1 rfl
  have d4 := blk_cell (i := 4) HB.out.b1 rfl
  have d5 := blk_cell (i := 5) HB.out.b1 rfl
  have r0 := blk_cell (i := 0) HB.out.b2 rfl
  have r1 := blk_cell (i := 1) HB.out.b2 rfl
  have f0 := blk_free (i := 0) HB.out.b2
  have f1 := blk_free (i := 1) HB.out.b2
  rcases V with _ | ⟨s, _ | ⟨s2, V2⟩⟩
  · obtain ⟨a1, c1, rfl⟩ := own_lenH ho
    clear ho
    by_cases hm : 0 < mi
    · have HS := Kp.mk (HBD.out (rqB_noneY hm))
      go_wp2_with fail
      have HZ := HB.out.put (.int .i64 0) (.int .i64 0)
      have z0 := blk_cell (i := 0) HZ.b2 rfl
      have z1 := blk_cell (i := 1) HZ.b2 rfl
      exact bodyPost_ret (v := .tuple #[.agg #[.int .i64 0, .int .i64 0], .int .i64 13]) (by simp [results, Tryz.results26, go_sem, z0, z1]) rfl ⟨by rw [HS.out], HZ.bel⟩
    · have HS := Kp.mk (HOK.out (rqB_noneN hm))
      have HU := Kp.mk (show unR [] = false from rfl)
      go_wp2_with fail
      refine (HSD.out _ (HV.out.below HB.out.bel)).mono ?_
      rintro e w9 ⟨rfl, hb9⟩
      replace HB := Kp.mk ((HB.out.call hb9).alloc (.cells #[.int .i64 zk, .int .i64 zn] 37))
      clear hb9 d0 d1 d2 d3 d4 d5 r0 r1 f0 f1
      have d0 := blk_cell (i := 0) HB.out.b1 rfl
      have d1 := blk_cell (i := 1) HB.out.b1 rfl
      have d2 := blk_cell (i := 2) HB.out.b1 rfl
      have d3 := blk_cell (i := 3) HB.out.b1 rfl
      have d4 := blk_cell (i := 4) HB.out.b1 rfl
      have d5 := blk_cell (i := 5) HB.out.b1 rfl
      have r0 := blk_cell (i := 0) HB.out.b2 rfl
      have r1 := blk_cell (i := 1) HB.out.b2 rfl
      have f0 := blk_free (i := 0) HB.out.b2
      have f1 := blk_free (i := 1) HB.out.b2
      go_wp2_with fail
      have HZ := HB.out.put (.int .i64 zk) (.int .i64 zn)
      have z0 := blk_cell (i := 0) HZ.b2 rfl
      have z1 := blk_cell (i := 1) HZ.b2 rfl
      exact bodyPost_ret (v := .tuple #[.agg #[.int .i64 zk, .int .i64 zn], .int .i64 ze]) (by simp [results, Tryz.results26, go_sem, z0, z1]) rfl ⟨by rw [HS.out], HZ.bel⟩
  · obtain ⟨gu, cu, rfl⟩ := own_some ho (by simp)
    have c9 := own_cellsS ho 0 (by simp)
    have glt := (ho.lt gu rfl).2
    clear ho
    rw [Nat.add_zero] at c9
    simp only [List.getElem_cons_zero] at c9
    have q9 : ¬ (0 < mi ∧ [s].length ≠ 1) := by simp
    have hsz := HSM.out s (by simp)
    have H1 := Kp.mk (rqB_one (mi := mi) (s := s))
    have HU := Kp.mk (show unR [s] = (hsE s != 0) by unfold unR; simp)
    obtain ⟨pa, pb, hp⟩ := hsRet_form s
    have HP := Kp.mk (fun w => rhs_parse_any s w (by omega))
    rw [hp] at HP
    clear hp
    generalize hsE s = he at *
    by_cases hE : he = 0
    · subst hE
      have HS := Kp.mk (HOK.out H1.out)
      go_wp2_with fail
      refine (HP.out _).mono ?_
      rintro e w9 ⟨rfl, hb9⟩
      replace HB := Kp.mk (HB.out.call hb9)
      clear hb9 c9 d0 d1 d2 d3 d4 d5 r0 r1 f0 f1
      have d0 := blk_cell (i := 0) HB.out.b1 rfl
      have d1 := blk_cell (i := 1) HB.out.b1 rfl
      have d2 := blk_cell (i := 2) HB.out.b1 rfl
      have d3 := blk_cell (i := 3) HB.out.b1 rfl
      have d4 := blk_cell (i := 4) HB.out.b1 rfl
      have d5 := blk_cell (i := 5) HB.out.b1 rfl
      have r0 := blk_cell (i := 0) HB.out.b2 rfl
      have r1 := blk_cell (i := 1) HB.out.b2 rfl
      have f0 := blk_free (i := 0) HB.out.b2
      have f1 := blk_free (i := 1) HB.out.b2
      go_wp2_with fail
      refine (HSD.out _ (HV.out.below HB.out.bel)).mono ?_
      rintro e w9 ⟨rfl, hb9⟩
      replace HB := Kp.mk ((HB.out.call hb9).alloc (.cells #[.int .i64 zk, .int .i64 zn] 37))
      clear hb9 d0 d1 d2 d3 d4 d5 r0 r1 f0 f1
      have d0 := blk_cell (i := 0) HB.out.b1 rfl
      have d1 := blk_cell (i := 1) HB.out.b1 rfl
      have d2 := blk_cell (i := 2) HB.out.b1 rfl
      have d3 := blk_cell (i := 3) HB.out.b1 rfl
      have d4 := blk_cell (i := 4) HB.out.b1 rfl
      have d5 := blk_cell (i := 5) HB.out.b1 rfl
      have r0 := blk_cell (i := 0) HB.out.b2 rfl
      have r1 := blk_cell (i := 1) HB.out.b2 rfl
      have f0 := blk_free (i := 0) HB.out.b2
      have f1 := blk_free (i := 1) HB.out.b2
      go_wp2_with fail
      have HZ := HB.out.put (.int .i64 zk) (.int .i64 zn)
      have z0 := blk_cell (i := 0) HZ.b2 rfl
      have z1 := blk_cell (i := 1) HZ.b2 rfl
      exact bodyPost_ret (v := .tuple #[.agg #[.int .i64 zk, .int .i64 zn], .int .i64 ze]) (by simp [results, Tryz.results26, go_sem, z0, z1]) rfl ⟨by rw [HS.out], HZ.bel⟩
    · have hE2 : (he != 0) = true := by rw [bne_iff_ne]; exact hE
      have HS := Kp.mk (HBD.out (H1.out.trans hE2))
      go_wp2_with fail
      refine (HP.out _).mono ?_
      rintro e w9 ⟨rfl, hb9⟩
      replace HB := Kp.mk (HB.out.call hb9)
      clear hb9 c9 d0 d1 d2 d3 d4 d5 r0 r1 f0 f1
      have d0 := blk_cell (i := 0) HB.out.b1 rfl
      have d1 := blk_cell (i := 1) HB.out.b1 rfl
      have d2 := blk_cell (i := 2) HB.out.b1 rfl
      have d3 := blk_cell (i := 3) HB.out.b1 rfl
      have d4 := blk_cell (i := 4) HB.out.b1 rfl
      have d5 := blk_cell (i := 5) HB.out.b1 rfl
      have r0 := blk_cell (i := 0) HB.out.b2 rfl
      have r1 := blk_cell (i := 1) HB.out.b2 rfl
      have f0 := blk_free (i := 0) HB.out.b2
      have f1 := blk_free (i := 1) HB.out.b2
      go_wp2_with fail
      have HZ := HB.out.put (.int .i64 0) (.int .i64 0)
      have z0 := blk_cell (i := 0) HZ.b2 rfl
      have z1 := blk_cell (i := 1) HZ.b2 rfl
      exact bodyPost_ret (v := .tuple #[.agg #[.int .i64 0, .int .i64 0], .int .i64 13]) (by simp [results, Tryz.results26, go_sem, z0, z1]) rfl ⟨by rw [HS.out], HZ.bel⟩
  · have HS := Kp.mk (HBD.out (rqB_many (by simp)))
    obtain ⟨a1, c1, rfl⟩ := own_lenH ho
    have hn : (s :: s2 :: V2).length ≤ 50 := by omega
    have hn1 : (1 : Int) < ((s :: s2 :: V2).length : Int) := by simp; omega
    have hn2 : (((s :: s2 :: V2).length : Int) != 1) = true := by rw [bne_iff_ne]; omega
    clear ho
    generalize (s :: s2 :: V2).length = nv at *
    go_wp2_with fail
    have HZ := HB.out.put (.int .i64 0) (.int .i64 0)
    have z0 := blk_cell (i := 0) HZ.b2 rfl
    have z1 := blk_cell (i := 1) HZ.b2 rfl
    exact bodyPost_ret (v := .tuple #[.agg #[.int .i64 0, .int .i64 0], .int .i64 13]) (by simp [results, Tryz.results26, go_sem, z0, z1]) rfl ⟨by rw [HS.out], HZ.bel⟩
set_option maxRecDepth 100000 in
set_option maxHeartbeats 8000000 in
theorem fres_any (M T R m : ByteArray) (mi st : Int) (v : Value) (l : List Fld) (w : World) (hv : RdF w v l) (hF : FewF l) :
    Calls Tryz.prog 27 #[.agg #[.string M, .string T, .int .i64 mi, .int .i64 st, .string R, v], .string m] w fun e w' => e = .returned (.tuple #[.agg #[.int .i64 (rsR l mi st m).1, .int .i64 (rsR l mi st m).2.1], .int .i64 (rsR l mi st m).2.2]) ∧ Below w.heap.size w w' := by
  have HV := Kp.mk hv
  have HSD := Kp.mk (fun w hv => said_any M T R mi st v l w hv hF)
  have HBD := Kp.mk (fun w => bodl_any st m w)
  have HS := Kp.mk (show rsR l mi st m = rsF (sdR l mi) (bdB st m) from rfl)
  have HW := Kp.mk (sdR_ways l mi)
  obtain ⟨ad, cap, rfl, -, -, -⟩ := hv
  generalize rsR l mi st m = S at *
  generalize sdR l mi = Z at *
  generalize bdB st m = bb at *
  obtain ⟨zk, zn, zb, ze⟩ := Z
  dsimp only at HSD
  have HB := Kp.mk (Bx2.new w 33 37 (hdC M T mi st R (.slice ad l.length cap)) #[.int .i64 0, .int .i64 0])
  unfold hdC at HB
  have d0 := blk_cell (i := 0) HB.out.b1 rfl
  have d1 := blk_cell (i := 1) HB.out.b1 rfl
  have d2 := blk_cell (i := 2) HB.out.b1 rfl
  have d3 := blk_cell (i := 3) HB.out.b1 rfl
  have d4 := blk_cell (i := 4) HB.out.b1 rfl
  have d5 := blk_cell (i := 5) HB.out.b1 rfl
  have r0 := blk_cell (i := 0) HB.out.b2 rfl
  have r1 := blk_cell (i := 1) HB.out.b2 rfl
  have f0 := blk_free (i := 0) HB.out.b2
  have f1 := blk_free (i := 1) HB.out.b2
  go_enter Tryz.func27, Tryz.ntmps27
  go_wp2_with fail
  refine (HSD.out _ (HV.out.below HB.out.bel)).mono ?_
  rintro e w9 ⟨rfl, hb9⟩
  have g0 := blk_cell (i := 0) (heap_alloc_new w9 (.cells #[.int .i64 zk, .int .i64 zn] 37)) rfl
  have g1 := blk_cell (i := 1) (heap_alloc_new w9 (.cells #[.int .i64 zk, .int .i64 zn] 37)) rfl
  replace HB := Kp.mk ((HB.out.call hb9).alloc (.cells #[.int .i64 zk, .int .i64 zn] 37))
  clear hb9 d0 d1 d2 d3 d4 d5 r0 r1 f0 f1
  have d0 := blk_cell (i := 0) HB.out.b1 rfl
  have d1 := blk_cell (i := 1) HB.out.b1 rfl
  have d2 := blk_cell (i := 2) HB.out.b1 rfl
  have d3 := blk_cell (i := 3) HB.out.b1 rfl
  have d4 := blk_cell (i := 4) HB.out.b1 rfl
  have d5 := blk_cell (i := 5) HB.out.b1 rfl
  have r0 := blk_cell (i := 0) HB.out.b2 rfl
  have r1 := blk_cell (i := 1) HB.out.b2 rfl
  have f0 := blk_free (i := 0) HB.out.b2
  have f1 := blk_free (i := 1) HB.out.b2
  rcases HW.out with ⟨e9, he⟩ | ⟨q9, m9, hq, he⟩
  · simp only [Prod.mk.injEq] at he
    obtain ⟨rfl, rfl, rfl, rfl⟩ := he
    clear HW
    by_cases h0 : ze = 0
    · subst h0
      cases bb
      · replace HS := Kp.mk (HS.out.trans (show _ = (3, 0, 0) from rfl))
        go_wp2_with fail
        refine (HBD.out _).mono ?_
        rintro e w8 ⟨rfl, rfl⟩
        go_wp2_with fail
        have HZ := HB.out.put (.int .i64 3) (.int .i64 0)
        have z0 := blk_cell (i := 0) HZ.b2 rfl
        have z1 := blk_cell (i := 1) HZ.b2 rfl
        exact bodyPost_ret (v := .tuple #[.agg #[.int .i64 3, .int .i64 0], .int .i64 0]) (by simp [results, Tryz.results27, go_sem, z0, z1]) rfl ⟨by rw [HS.out], HZ.bel⟩
      · replace HS := Kp.mk (HS.out.trans (show _ = (0, 0, 0) from rfl))
        go_wp2_with fail
        refine (HBD.out _).mono ?_
        rintro e w8 ⟨rfl, rfl⟩
        go_wp2_with fail
        have HZ := HB.out.put (.int .i64 0) (.int .i64 0)
        have z0 := blk_cell (i := 0) HZ.b2 rfl
        have z1 := blk_cell (i := 1) HZ.b2 rfl
        exact bodyPost_ret (v := .tuple #[.agg #[.int .i64 0, .int .i64 0], .int .i64 0]) (by simp [results, Tryz.results27, go_sem, z0, z1]) rfl ⟨by rw [HS.out], HZ.bel⟩
    · replace HS := Kp.mk (HS.out.trans (show _ = (0, 0, ze) by unfold rsF; rw [if_pos (.inl h0)]))
      have h2 : (ze != 0) = true := by rw [bne_iff_ne]; exact h0
      go_wp2_with fail
      have HZ := HB.out.put (.int .i64 0) (.int .i64 0)
      have z0 := blk_cell (i := 0) HZ.b2 rfl
      have z1 := blk_cell (i := 1) HZ.b2 rfl
      exact bodyPost_ret (v := .tuple #[.agg #[.int .i64 0, .int .i64 0], .int .i64 ze]) (by simp [results, Tryz.results27, go_sem, z0, z1]) rfl ⟨by rw [HS.out], HZ.bel⟩
  · simp only [Prod.mk.injEq] at he
    obtain ⟨rfl, rfl, rfl, rfl⟩ := he
    clear HW
    have hq2 : (zk == 0) = false := beq_eq_false_iff_ne.2 hq
    cases bb
    · replace HS := Kp.mk (HS.out.trans (show _ = (zk, zn, 0) from rfl))
      go_wp2_with fail
      refine (HBD.out _).mono ?_
      rintro e w8 ⟨rfl, rfl⟩
      go_wp2_with fail
      have HZ := HB.out.put (.int .i64 zk) (.int .i64 zn)
      have z0 := blk_cell (i := 0) HZ.b2 rfl
      have z1 := blk_cell (i := 1) HZ.b2 rfl
      exact bodyPost_ret (v := .tuple #[.agg #[.int .i64 zk, .int .i64 zn], .int .i64 0]) (by simp [results, Tryz.results27, go_sem, z0, z1]) rfl ⟨by rw [HS.out], HZ.bel⟩
    · replace HS := Kp.mk (HS.out.trans (show _ = (0, 0, 0) from rfl))
      go_wp2_with fail
      refine (HBD.out _).mono ?_
      rintro e w8 ⟨rfl, rfl⟩
      go_wp2_with fail
      have HZ := HB.out.put (.int .i64 0) (.int .i64 0)
      have z0 := blk_cell (i := 0) HZ.b2 rfl
      have z1 := blk_cell (i := 1) HZ.b2 rfl
      exact bodyPost_ret (v := .tuple #[.agg #[.int .i64 0, .int .i64 0], .int .i64 0]) (by simp [results, Tryz.results27, go_sem, z0, z1]) rfl ⟨by rw [HS.out], HZ.bel⟩
set_option maxRecDepth 100000 in
set_option maxHeartbeats 8000000 in
theorem rfres_any (M T R m : ByteArray) (mi st : Int) (v : Value) (l : List Fld) (w : World) (hv : RdF w v l) (hF : FewF l) :
    Calls Tryz.prog 28 #[.agg #[.string M, .string T, .int .i64 mi, .int .i64 st, .string R, v], .string m] w fun e w' => e = .returned (.tuple #[.agg #[.int .i64 (rsR l mi st m).1, .int .i64 (rsR l mi st m).2.1], .int .i64 (rsR l mi st m).2.2]) ∧ Below w.heap.size w w' := by
  have HV := Kp.mk hv
  have HSD := Kp.mk (fun w hv => rsaid_any M T R mi st v l w hv hF)
  have HBD := Kp.mk (fun w => rbodl_any st m w)
  have HS := Kp.mk (show rsR l mi st m = rsF (sdR l mi) (bdB st m) from rfl)
  have HW := Kp.mk (sdR_ways l mi)
  obtain ⟨ad, cap, rfl, -, -, -⟩ := hv
  generalize rsR l mi st m = S at *
  generalize sdR l mi = Z at *
  generalize bdB st m = bb at *
  obtain ⟨zk, zn, zb, ze⟩ := Z
  dsimp only at HSD
  have HB := Kp.mk (Bx2.new w 33 37 (hdC M T mi st R (.slice ad l.length cap)) #[.int .i64 0, .int .i64 0])
  unfold hdC at HB
  have d0 := blk_cell (i := 0) HB.out.b1 rfl
  have d1 := blk_cell (i := 1) HB.out.b1 rfl
  have d2 := blk_cell (i := 2) HB.out.b1 rfl
  have d3 := blk_cell (i := 3) HB.out.b1 rfl
  have d4 := blk_cell (i := 4) HB.out.b1 rfl
  have d5 := blk_cell (i := 5) HB.out.b1 rfl
  have r0 := blk_cell (i := 0) HB.out.b2 rfl
  have r1 := blk_cell (i := 1) HB.out.b2 rfl
  have f0 := blk_free (i := 0) HB.out.b2
  have f1 := blk_free (i := 1) HB.out.b2
  go_enter Tryz.func28, Tryz.ntmps28
  go_wp2_with fail
  refine (HSD.out _ (HV.out.below HB.out.bel)).mono ?_
  rintro e w9 ⟨rfl, hb9⟩
  have g0 := blk_cell (i := 0) (heap_alloc_new w9 (.cells #[.int .i64 zk, .int .i64 zn] 37)) rfl
  have g1 := blk_cell (i := 1) (heap_alloc_new w9 (.cells #[.int .i64 zk, .int .i64 zn] 37)) rfl
  replace HB := Kp.mk ((HB.out.call hb9).alloc (.cells #[.int .i64 zk, .int .i64 zn] 37))
  clear hb9 d0 d1 d2 d3 d4 d5 r0 r1 f0 f1
  have d0 := blk_cell (i := 0) HB.out.b1 rfl
  have d1 := blk_cell (i := 1) HB.out.b1 rfl
  have d2 := blk_cell (i := 2) HB.out.b1 rfl
  have d3 := blk_cell (i := 3) HB.out.b1 rfl
  have d4 := blk_cell (i := 4) HB.out.b1 rfl
  have d5 := blk_cell (i := 5) HB.out.b1 rfl
  have r0 := blk_cell (i := 0) HB.out.b2 rfl
  have r1 := blk_cell (i := 1) HB.out.b2 rfl
  have f0 := blk_free (i := 0) HB.out.b2
  have f1 := blk_free (i := 1) HB.out.b2
  rcases HW.out with ⟨e9, he⟩ | ⟨q9, m9, hq, he⟩
  · simp only [Prod.mk.injEq] at he
    obtain ⟨rfl, rfl, rfl, rfl⟩ := he
    clear HW
    by_cases h0 : ze = 0
    · subst h0
      cases bb
      · replace HS := Kp.mk (HS.out.trans (show _ = (3, 0, 0) from rfl))
        go_wp2_with fail
        refine (HBD.out _).mono ?_
        rintro e w8 ⟨rfl, rfl⟩
        go_wp2_with fail
        have HZ := HB.out.put (.int .i64 3) (.int .i64 0)
        have z0 := blk_cell (i := 0) HZ.b2 rfl
        have z1 := blk_cell (i := 1) HZ.b2 rfl
        exact bodyPost_ret (v := .tuple #[.agg #[.int .i64 3, .int .i64 0], .int .i64 0]) (by simp [results, Tryz.results28, go_sem, z0, z1]) rfl ⟨by rw [HS.out], HZ.bel⟩
      · replace HS := Kp.mk (HS.out.trans (show _ = (0, 0, 0) from rfl))
        go_wp2_with fail
        refine (HBD.out _).mono ?_
        rintro e w8 ⟨rfl, rfl⟩
        go_wp2_with fail
        have HZ := HB.out.put (.int .i64 0) (.int .i64 0)
        have z0 := blk_cell (i := 0) HZ.b2 rfl
        have z1 := blk_cell (i := 1) HZ.b2 rfl
        exact bodyPost_ret (v := .tuple #[.agg #[.int .i64 0, .int .i64 0], .int .i64 0]) (by simp [results, Tryz.results28, go_sem, z0, z1]) rfl ⟨by rw [HS.out], HZ.bel⟩
    · replace HS := Kp.mk (HS.out.trans (show _ = (0, 0, ze) by unfold rsF; rw [if_pos (.inl h0)]))
      have h2 : (ze != 0) = true := by rw [bne_iff_ne]; exact h0
      go_wp2_with fail
      have HZ := HB.out.put (.int .i64 0) (.int .i64 0)
      have z0 := blk_cell (i := 0) HZ.b2 rfl
      have z1 := blk_cell (i := 1) HZ.b2 rfl
      exact bodyPost_ret (v := .tuple #[.agg #[.int .i64 0, .int .i64 0], .int .i64 ze]) (by simp [results, Tryz.results28, go_sem, z0, z1]) rfl ⟨by rw [HS.out], HZ.bel⟩
  · simp only [Prod.mk.injEq] at he
    obtain ⟨rfl, rfl, rfl, rfl⟩ := he
    clear HW
    have hq2 : (zk == 0) = false := beq_eq_false_iff_ne.2 hq
    cases bb
    · replace HS := Kp.mk (HS.out.trans (show _ = (zk, zn, 0) from rfl))
      go_wp2_with fail
      refine (HBD.out _).mono ?_
      rintro e w8 ⟨rfl, rfl⟩
      go_wp2_with fail
      have HZ := HB.out.put (.int .i64 zk) (.int .i64 zn)
      have z0 := blk_cell (i := 0) HZ.b2 rfl
      have z1 := blk_cell (i := 1) HZ.b2 rfl
      exact bodyPost_ret (v := .tuple #[.agg #[.int .i64 zk, .int .i64 zn], .int .i64 0]) (by simp [results, Tryz.results28, go_sem, z0, z1]) rfl ⟨by rw [HS.out], HZ.bel⟩
    · replace HS := Kp.mk (HS.out.trans (show _ = (0, 0, 0) from rfl))
      go_wp2_with fail
      refine (HBD.out _).mono ?_
      rintro e w8 ⟨rfl, rfl⟩
      go_wp2_with fail
      have HZ := HB.out.put (.int .i64 0) (.int .i64 0)
      have z0 := blk_cell (i := 0) HZ.b2 rfl
      have z1 := blk_cell (i := 1) HZ.b2 rfl
      exact bodyPost_ret (v := .tuple #[.agg #[.int .i64 0, .int .i64 0], .int .i64 0]) (by simp [results, Tryz.results28, go_sem, z0, z1]) rfl ⟨by rw [HS.out], HZ.bel⟩
end Go.Proofs.YtkfpioadimkogaaGreatDoor
