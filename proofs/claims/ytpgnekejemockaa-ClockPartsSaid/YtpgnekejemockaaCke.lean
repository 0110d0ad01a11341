/- Who is due (layer 41): the document's Due (bin/mkcke.py). -/
import Derived.Test.YtpgnekejemockaaCkd
namespace Go.Proofs.Ytpgnekejemockaa
open Go.RowKit
set_option linter.unusedVariables false
set_option linter.unusedSimpArgs false

theorem getD_in {L : List Rw} {k : Nat} (h : k < L.length) : L.getD k (0, 0) = L[k] := by simp [List.getD, h]
/-- Which row comes first of two. -/
def lesR (p q : Rw) : Prop := p.2 < q.2 ∨ (p.2 = q.2 ∧ p.1 < q.1)
instance (p q : Rw) : Decidable (lesR p q) := by unfold lesR; infer_instance
/-- The best of the first k rows. -/
def bet (L : List Rw) (now : Int) : Nat → Option Nat
  | 0 => none
  | k + 1 => if (L.getD k (0, 0)).2 ≤ now then (match bet L now k with
      | none => some k
      | some b => if lesR (L.getD k (0, 0)) (L.getD b (0, 0)) then some k else some b) else bet L now k
theorem bet_lt (L : List Rw) (now : Int) : ∀ (k b : Nat), bet L now k = some b → b < k
  | 0, b, h => by cases h
  | k + 1, b, h => by
    unfold bet at h
    split at h
    · split at h
      · cases h; omega
      · rename_i b' hb'
        have := bet_lt L now k b' hb'
        split at h <;> cases h <;> omega
    · have := bet_lt L now k b h; omega
def bI : Option Nat → Int
  | none => -1
  | some b => b
/-- Who is due, and the rows of all others. -/
def dueF : Nat → List Rw → Int → List Int × List Rw
  | 0, X, _ => ([], X)
  | f + 1, X, now => match bet X now X.length with
    | none => ([], X)
    | some b => ((X.getD b (0, 0)).1 :: (dueF f (wth X (X.getD b (0, 0)).1) now).1, (dueF f (wth X (X.getD b (0, 0)).1) now).2)
theorem wth_lt {X : List Rw} {b : Nat} (h : b < X.length) : (wth X (X.getD b (0, 0)).1).length < X.length := by
  unfold wth
  have hm : X.getD b (0, 0) ∈ X := by rw [getD_in h]; exact List.getElem_mem h
  refine Nat.lt_of_le_of_ne (List.length_filter_le _ _) (fun e => ?_)
  have := List.length_filter_eq_length_iff.1 e _ hm
  simp at this
theorem dueF_eq : ∀ (f g : Nat) (X : List Rw) (now : Int), X.length ≤ f → X.length ≤ g → dueF f X now = dueF g X now
  | 0, 0, X, now, _, _ => rfl
  | 0, g + 1, X, now, h, _ => by
    have : X = [] := List.eq_nil_of_length_eq_zero (by omega)
    subst this
    rfl
  | f + 1, 0, X, now, _, h => by
    have : X = [] := List.eq_nil_of_length_eq_zero (by omega)
    subst this
    rfl
  | f + 1, g + 1, X, now, h1, h2 => by
    unfold dueF
    split
    · rfl
    · rename_i b hb
      have := wth_lt (bet_lt _ _ _ _ hb)
      rw [dueF_eq f g _ now (by omega) (by omega)]
def dueL (X : List Rw) (now : Int) : List Int × List Rw := dueF X.length X now
theorem dueL_none {X : List Rw} {now : Int} (h : bet X now X.length = none) : dueL X now = ([], X) := by
  unfold dueL
  rcases hX : X.length with _ | n
  · rfl
  · unfold dueF
    rw [h]
theorem dueL_some {X : List Rw} {now : Int} {b : Nat} (h : bet X now X.length = some b) : dueL X now = ((X.getD b (0, 0)).1 :: (dueL (wth X (X.getD b (0, 0)).1) now).1, (dueL (wth X (X.getD b (0, 0)).1) now).2) := by
  have hb := bet_lt _ _ _ _ h
  have hw := wth_lt hb
  have e : dueL X now = dueF (X.length - 1 + 1) X now := by unfold dueL; rw [Nat.sub_add_cancel (by omega)]
  rw [e]
  unfold dueF
  rw [h]
  dsimp only
  rw [dueF_eq (X.length - 1) (wth X (X.getD b (0, 0)).1).length _ now (by omega) (Nat.le_refl _)]
  rfl
theorem bet_step (L : List Rw) (now : Int) (k : Nat) : bet L now (k + 1) = if (L.getD k (0, 0)).2 ≤ now then (match bet L now k with
      | none => some k
      | some b => if lesR (L.getD k (0, 0)) (L.getD b (0, 0)) then some k else some b) else bet L now k := rfl
theorem Try.infoIn : (Try.prog.info? 3).map (fun i => (i.zero, i.size, i.bytes)) = some (some (.int .i64 0), 1, 8) := by kernel_rfl
def lenV : Value → Nat
  | .slice _ n _ => n
  | _ => 0
def inL (l : List Int) : List Value := l.map (.int .i64 ·)
def RetD (L : List Rw) (now : Int) (w : World) (e : Ending) (w' : World) : Prop := ∃ ov v', e = .returned (.tuple #[ov, v']) ∧ w'.ownsRow w.heap.size 3 1 ov (dueL L now).1.length (inL (dueL L now).1) ∧ RdR w' v' (dueL L now).2 ∧ Below w.heap.size w w'
/-- The inner loop's relation. -/
structure DuI (L X : List Rw) (out : List Int) (now : Int) (v ov : Value) (w wr : World) : Prop where
  r : RdR wr v X
  o : wr.ownsRow w.heap.size 3 1 ov out.length (inL out)
  bl : Below w.heap.size w wr
  e1 : (dueL L now).1 = out ++ (dueL X now).1
  e2 : (dueL L now).2 = (dueL X now).2
  l1 : X.length ≤ 1000
  l2 : out.length + X.length ≤ 1000
  ne : 0 < X.length → ∀ k, v.ownBlock = some k → ov.ownBlock ≠ some k
theorem own_below {B : Nat} {e : TypeId} {sz n : Nat} {v : Value} {xs : List Value} {w w' : World} (h : w.ownsRow B e sz v n xs) (hb : Below w.heap.size w w') : w'.ownsRow B e sz v n xs := by
  refine ⟨h.1, ?_⟩
  rcases h.2 with h1 | ⟨g, cap, cur, h1, h2, h3, rest⟩
  · exact .inl h1
  · exact .inr ⟨g, cap, cur, h1, h2, (hb.block _ (blk_lt h3)).trans h3, rest⟩
theorem DuI.below {L X : List Rw} {out : List Int} {now : Int} {v ov : Value} {w wr w' : World} (h : DuI L X out now v ov w wr) (hb : Below wr.heap.size wr w') : DuI L X out now v ov w w' :=
  ⟨h.r.below hb, own_below h.o hb, h.bl.trans (hb.mono h.bl.size), h.e1, h.e2, h.l1, h.l2, h.ne⟩
theorem cell_rw {w : World} {g o c n b : Nat} {X : List Rw} {u1 u2 : Int} (h : RdR w (.slice (some ⟨g, o, none⟩) n c) X) (hb : b < X.length) (hq : X[b] = (u1, u2)) : w.cell? ⟨g, o + b * 2, none⟩ = some (.int .i64 u1) := by
  obtain ⟨g9, o9, e9, hg9, d9⟩ := rdr_cells h (by omega)
  cases e9
  have x1 := (d9 b hb).1
  rw [hq] at x1
  exact x1
set_option maxRecDepth 100000 in
set_option maxHeartbeats 4000000 in
theorem rdue_any (v : Value) (L : List Rw) (now : Int) (w : World) (hv : RdR w v L) (hl : L.length ≤ 1000) :
    Calls Try.prog 15 #[v, .int .i64 now] w (RetD L now w) := by
  have hBA := (Below.refl w.heap.size w).alloc (Nat.le_refl _) (.cells #[] 3)
  have HI := Kp.mk (show DuI L L [] now v (.slice (some ⟨w.heap.size, 0, none⟩) 0 0) w (w.alloc (.cells #[] 3)) from
    ⟨hv.below hBA, World.ownsRow_lit (base := w.heap.size) (e := 3) (size := 1) w #[] 0 (Nat.le_refl _) (by unfold maxLen; omega) rfl, hBA, rfl, rfl, hl, by simpa using hl, fun h0 k hk e => by
      obtain ⟨a, c, rfl⟩ := rdr_form hv
      obtain ⟨b, o, rfl, hb, -⟩ := rdr_cells hv h0
      simp [Value.ownBlock] at hk e
      omega⟩)
  obtain ⟨a, c, rfl⟩ := rdr_form hv
  clear hBA hv
  go_enter Try.func15, Try.ntmps15
  go_wp2_with fail
  go_loopw [0, 6] (fun v ov wr => ∃ (X : List Rw) (out : List Int), DuI L X out now v ov w wr) (fun v _ _ => lenV v)
  case atStart => exact ⟨L, [], HI.out⟩
  case round =>
    obtain ⟨X, out, hi⟩ := hrel
    replace HI := Kp.mk hi
    clear hi
    obtain ⟨a2, cp2, rfl⟩ := rdr_form HI.out.r
    have hXl := HI.out.l1
    go_wp2_with fail
    go_loopw [7, 8] (fun bv i wr2 => ∃ k : Nat, k ≤ X.length ∧ i = .int .i64 k ∧ bv = .int .i64 (bI (bet X now k)) ∧ DuI L X out now (.slice a2 X.length cp2) u6 w wr2) (fun _ i _ => X.length - (intOf i).toNat)
    case atStart => exact ⟨0, by omega, rfl, rfl, HI.out⟩
    case round =>
      obtain ⟨k, hk, rfl, rfl, hj⟩ := hrel
      have HJ := Kp.mk hj
      clear hj
      by_cases hlt : k < X.length
      · obtain ⟨g, o, rfl, hgl, d0⟩ := rdr_cells HJ.out.r (by omega)
        obtain ⟨c1, c2⟩ := d0 k hlt
        have q0 : (0 : Int) ≤ (k : Int) := by omega
        have q1 : (k : Int) < (X.length : Int) := by omega
        have HST := Kp.mk (bet_step X now k)
        rw [getD_in hlt] at HST
        have HD := Kp.mk d0
        have HBL := Kp.mk (fun b h => bet_lt X now k b h)
        clear d0
        generalize X[k] = p at *
        obtain ⟨p1, p2⟩ := p
        dsimp only at c1 c2 HST
        by_cases hnow : p2 ≤ now
        · cases hb : bet X now k with
          | none =>
            have HBT := Kp.mk (show bet X now (k + 1) = some k by rw [HST.out, if_pos hnow, hb])
            rw [show bI none = -1 from rfl]
            clear hb
            go_upto_region 6 with fail
            go_region
            all_goals
              have HBD := Kp.mk (HJ.out.below (gdrewN _ 1))
              go_wp2_with fail
              go_roundw
              case rel => exact ⟨k + 1, by omega, by go_num, by rw [HBT.out]; rfl, HBD.out⟩
              case measure => simp [intOf]; omega
          | some b =>
            have hbl := HBL.out b hb
            have hbX : b < X.length := by omega
            obtain ⟨e1, e2⟩ := HD.out b hbX
            have r0 : (0 : Int) ≤ (b : Int) := by omega
            have r1 : (b : Int) < (X.length : Int) := by omega
            have r2 : ¬ (b : Int) < 0 := by omega
            have HST2 := Kp.mk (show bet X now (k + 1) = if lesR (p1, p2) X[b] then some k else some b by
              rw [HST.out, if_pos hnow, hb]
              show (if lesR (p1, p2) (X.getD b (0, 0)) then some k else some b) = _
              rw [getD_in hbX])
            rw [show bI (some b) = (b : Int) from rfl]
            generalize X[b] = q at *
            obtain ⟨u1, u2⟩ := q
            dsimp only at e1 e2
            clear hb
            by_cases h1 : p2 < u2
            · have HBT := Kp.mk (show bet X now (k + 1) = some k by rw [HST2.out, if_pos (show lesR (p1, p2) (u1, u2) from Or.inl h1)])
              go_upto_region 6 with fail
              go_region
              all_goals
                have HBD := Kp.mk (HJ.out.below (gdrewN _ 1))
                go_wp2_with fail
                go_roundw
                case rel => exact ⟨k + 1, by omega, by go_num, by rw [HBT.out]; rfl, HBD.out⟩
                case measure => simp [intOf]; omega
            · by_cases h2 : p2 = u2
              · subst h2
                by_cases h3 : p1 < u1
                · have HBT := Kp.mk (show bet X now (k + 1) = some k by rw [HST2.out, if_pos (show lesR (p1, p2) (u1, p2) from Or.inr ⟨rfl, h3⟩)])
                  go_upto_region 6 with fail
                  go_region
                  all_goals
                    have HBD := Kp.mk (HJ.out.below (gdrewN _ 1))
                    go_wp2_with fail
                    go_roundw
                    case rel => exact ⟨k + 1, by omega, by go_num, by rw [HBT.out]; rfl, HBD.out⟩
                    case measure => simp [intOf]; omega
                · have HBT := Kp.mk (show bet X now (k + 1) = some b by rw [HST2.out, if_neg (show ¬ lesR (p1, p2) (u1, p2) by unfold lesR; simp only; omega)])
                  go_upto_region 6 with fail
                  go_region
                  all_goals
                    have HBD := Kp.mk (HJ.out.below (gdrewN _ 1))
                    go_wp2_with fail
                    go_roundw
                    case rel => exact ⟨k + 1, by omega, by go_num, by rw [HBT.out]; rfl, HBD.out⟩
                    case measure => simp [intOf]; omega
              · have h2b : (p2 == u2) = false := by rw [beq_eq_false_iff_ne]; exact h2
                have HBT := Kp.mk (show bet X now (k + 1) = some b by rw [HST2.out, if_neg (show ¬ lesR (p1, p2) (u1, u2) by unfold lesR; simp only; omega)])
                go_upto_region 6 with fail
                go_region
                all_goals
                  have HBD := Kp.mk (HJ.out.below (gdrewN _ 1))
                  go_wp2_with fail
                  go_roundw
                  case rel => exact ⟨k + 1, by omega, by go_num, by rw [HBT.out]; rfl, HBD.out⟩
                  case measure => simp [intOf]; omega
        · have HBT := Kp.mk (show bet X now (k + 1) = bet X now k by rw [HST.out, if_neg hnow])
          generalize bet X now k = R at *
          have HRI := Kp.mk (rfl : bI R = bI R)
          generalize hRI : bI R = RI at *
          have HRJ := Kp.mk hRI
          clear hRI HRI
          go_upto_region 6 with fail
          go_region
          all_goals
            have HBD := Kp.mk (HJ.out.below (gdrewN _ 1))
            go_wp2_with fail
            go_roundw
            case rel => exact ⟨k + 1, by omega, by go_num, by rw [HBT.out, HRJ.out], HBD.out⟩
            case measure => simp [intOf]; omega
      · have HK : k = X.length := by omega
        subst HK
        cases hb : bet X now X.length with
        | none =>
          have HDN := Kp.mk (dueL_none hb)
          rw [show bI none = -1 from rfl]
          clear hb
          go_wp2_with fail
          go_ret2
          unfold RetD
          have g1 := HJ.out.e1
          have g2 := HJ.out.e2
          rw [HDN.out] at g1 g2
          rw [List.append_nil] at g1
          exact ⟨_, _, rfl, by rw [g1]; exact HJ.out.o, by rw [g2]; exact HJ.out.r, HJ.out.bl⟩
        | some b =>
          have hbX := bet_lt _ _ _ _ hb
          obtain ⟨g, o, rfl, hgl, d0⟩ := rdr_cells HJ.out.r (by omega)
          obtain ⟨e1, e2⟩ := d0 b hbX
          have r0 : (0 : Int) ≤ (b : Int) := by omega
          have r1 : (b : Int) < (X.length : Int) := by omega
          have r2 : ¬ (b : Int) < 0 := by omega
          have HDN := Kp.mk (dueL_some hb)
          have HWL := Kp.mk (wth_lt hbX)
          rw [getD_in hbX] at HDN HWL
          rw [show bI (some b) = (b : Int) from rfl]
          clear hb d0
          generalize hq : X[b] = q at *
          obtain ⟨u1, u2⟩ := q
          have HQ := Kp.mk hq
          clear hq
          dsimp only at e1 e2 HDN HWL
          have hol := HJ.out.l2
          have hlen : (out.length + 1) * 8 ≤ 140737488355328 := by omega
          have hmx : out.length + 1 ≤ maxLen := by unfold maxLen; omega
          have hsz := HJ.out.bl.size
          have HO := Kp.mk HJ.out.o
          have HBA2 := Kp.mk ((Below.refl wr.heap.size wr).alloc (Nat.le_refl _) (.cells #[.int .i64 u1] 3))
          have HNE := Kp.mk (HJ.out.ne (by omega))
          go_wp2_with (at_builtin; refine app_any rfl _ _ _ _ rfl Try.underlying38 _ _ _ Try.infoIn rfl (by omega) w.heap.size _ _ _ rfl HO.out #[.int .i64 u1] rfl (fun u hu => by simp at hu; subst hu; rfl) _ rfl rfl hlen hmx hsz ?_; intro g' cap' w' h1 h2 h3; have G1 := Kp.mk h1; have G2 := Kp.mk h2; have GR := Kp.mk ((HJ.out.r.below HBA2.out).stays G2.out.size fun k hk hv => G2.out.block k hk (fun e => HNE.out k hv e.symm)); have x1 := cell_rw GR.out hbX HQ.out; clear h1 h2 h3 e1 e2)
          have GB := Kp.mk ((HJ.out.bl.alloc hsz (.cells #[.int .i64 u1] 3)).grown G2.out (Nat.le_trans hsz HBA2.out.size) (fun k hk => (HO.out.lt k hk).1))
          have HLX := Kp.mk (show ∀ k, (Value.slice (some ⟨g', 0, none⟩) (out.length + 1) cap').ownBlock = some k → k < w'.heap.size from fun k hk => (G1.out.lt k hk).2)
          go_wp2_with fail
          refine (rwth_any _ X u1 _ GR.out hXl).mono ?_
          rintro e w3 ⟨v3, rfl, ho3, hb3⟩
          have HN3 := Kp.mk (show DuI L (wth X u1) (out ++ [u1]) now v3 (.slice (some ⟨g', 0, none⟩) (out.length + 1) cap') w w3 from
            ⟨rdr_own ho3, by
              have h9 := own_below G1.out hb3
              have e9 : (out ++ [u1]).length = out.length + 1 := by simp
              rw [e9]
              have e8 : inL (out ++ [u1]) = inL out ++ [.int .i64 u1] := by simp [inL]
              rw [e8]
              exact h9, GB.out.trans (hb3.mono GB.out.size), by rw [HJ.out.e1, HDN.out]; simp, by rw [HJ.out.e2, HDN.out], by have := HWL.out; omega, by have := HWL.out; simp; omega, fun _ k hk e => by
              have h1 := (ho3.lt k hk).1
              have h2 := HLX.out k e
              omega⟩)
          have hlt3 := HWL.out
          obtain ⟨a3, c3, rfl⟩ := rdr_form HN3.out.r
          clear ho3 hb3
          go_wp2_with fail
          go_roundw
          case rel => exact ⟨_, _, HN3.out⟩
          case measure => simp [lenV]; omega
end Go.Proofs.Ytpgnekejemockaa
