/- Who is due (layer 41): cmp.Compare of ints; what Tick sorts by (bin/mkckc.py). -/
import Derived.Test.YtpgnekejemockaaCkb
import Derived.Test.YtpgnekejemockaaQs
namespace Go.Proofs.Ytpgnekejemockaa
open Go.RowKit
set_option linter.unusedVariables false
set_option linter.unusedSimpArgs false

def cmI (x y : Int) : Int := if x < y then -1 else if y < x then 1 else 0
theorem isnan_any (x : Int) (w : World) : Calls Try.prog 73 #[.int .i64 x] w fun e w' => e = .returned (.bool false) ∧ w = w' := by
  have hx : (x != x) = false := by simp
  go_enter Try.func73, Try.ntmps73
  go_wp2_with fail
  go_ret
  exact ⟨rfl, rfl⟩
theorem cmpc_any (x y : Int) (w : World) : Calls Try.prog 40 #[.int .i64 x, .int .i64 y] w fun e w' => e = .returned (.int .i64 (cmI x y)) ∧ w = w' := by
  have HC := Kp.mk (show cmI x y = if x < y then -1 else if y < x then 1 else 0 from rfl)
  generalize cmI x y = C at *
  by_cases h1 : x < y
  · have hC := HC.out.trans (if_pos h1)
    subst hC
    go_enter Try.func40, Try.ntmps40
    go_wp2_with fail
    refine (isnan_any x _).mono ?_
    rintro e w1 ⟨rfl, rfl⟩
    go_wp2_with fail
    refine (isnan_any y _).mono ?_
    rintro e w1 ⟨rfl, rfl⟩
    go_wp2_with fail
    go_ret
    exact ⟨rfl, rfl⟩
  · by_cases h2 : y < x
    · have hC := HC.out.trans ((if_neg h1).trans (if_pos h2))
      subst hC
      go_enter Try.func40, Try.ntmps40
      go_wp2_with fail
      refine (isnan_any x _).mono ?_
      rintro e w1 ⟨rfl, rfl⟩
      go_wp2_with fail
      refine (isnan_any y _).mono ?_
      rintro e w1 ⟨rfl, rfl⟩
      go_wp2_with fail
      go_ret
      exact ⟨rfl, rfl⟩
    · have hC := HC.out.trans ((if_neg h1).trans (if_neg h2))
      subst hC
      go_enter Try.func40, Try.ntmps40
      go_wp2_with fail
      refine (isnan_any x _).mono ?_
      rintro e w1 ⟨rfl, rfl⟩
      go_wp2_with fail
      refine (isnan_any y _).mono ?_
      rintro e w1 ⟨rfl, rfl⟩
      go_wp2_with fail
      go_ret
      exact ⟨rfl, rfl⟩
theorem lookF_run (w : World) (m n : Nat) (D : DataW Unit) (F : Int → Option Int) (hown : w.ownsMap (H := Unit) Try.prog 3 (plainElem Try.prog 3) m n D) (hF : FD D F) (id : Int) (hw : (Lit.int .i64 id).wf = true) :
    (Instr.lookup 80 (.map (some m)) (.int .i64 id) false).run Try.prog w = .ok (.int .i64 ((F id).getD 0)) w := by
  obtain ⟨c, h1, h2, -⟩ := hown.lookup_int Try.keyI Try.underlying80 Try.underlying3 (Try.zeroI _) (Maps.keyOf_int_mk Try.underlying3 hw)
  rw [(hF id hw).2] at h2
  cases h2
  exact h1
/-- What Tick sorts by. -/
def cmF (F : Int → Option Int) (x y : Int) : Int := if (F x).getD 0 = (F y).getD 0 then cmI x y else cmI ((F x).getD 0) ((F y).getD 0)
def DrN (w w' : World) : Prop := ∃ q, w' = w.drewN q
set_option maxRecDepth 100000 in
set_option maxHeartbeats 1000000 in
theorem tick1_any (b m n k : Nat) (now : Int) (F : Int → Option Int) (x y : Int) (w : World) (h : CK b m n now F w) (hk : w.cell? ⟨k, 0, none⟩ = some (.pointer (some ⟨b, 0, none⟩))) (hx : (Lit.int .i64 x).wf = true) (hy : (Lit.int .i64 y).wf = true) :
    Calls Try.prog 39 #[.int .i64 x, .int .i64 y, .pointer (some ⟨k, 0, none⟩)] w fun e w' => e = .returned (.int .i64 (cmF F x y)) ∧ DrN w w' := by
  obtain ⟨D, h1, h2⟩ := h.hm
  have c1 := blk_cell (i := 1) h.hb rfl
  have HX := Kp.mk hx
  have HY := Kp.mk hy
  have HO := Kp.mk h1
  have HF := Kp.mk h2
  have HC := Kp.mk (show cmF F x y = if (F x).getD 0 = (F y).getD 0 then cmI x y else cmI ((F x).getD 0) ((F y).getD 0) from rfl)
  have P1 := fun p : InS (DrN w) => (show p.w.cell? ⟨k, 0, none⟩ = some (.pointer (some ⟨b, 0, none⟩)) from by obtain ⟨q, e⟩ := p.ok; rw [e]; exact hk)
  have P2 := fun p : InS (DrN w) => (show p.w.cell? ⟨b, 1, none⟩ = some (.map (some m)) from by obtain ⟨q, e⟩ := p.ok; rw [e]; exact c1)
  have P3 := fun p : InS (DrN w) => (show (Instr.lookup 80 (.map (some m)) (.int .i64 x) false).run Try.prog p.w = .ok (.int .i64 ((F x).getD 0)) p.w from by obtain ⟨q, e⟩ := p.ok; rw [e]; exact lookF_run _ m n D F (own_blk (w' := w.drewN q) HO.out rfl) HF.out x HX.out)
  have P4 := fun p : InS (DrN w) => (show (Instr.lookup 80 (.map (some m)) (.int .i64 y) false).run Try.prog p.w = .ok (.int .i64 ((F y).getD 0)) p.w from by obtain ⟨q, e⟩ := p.ok; rw [e]; exact lookF_run _ m n D F (own_blk (w' := w.drewN q) HO.out rfl) HF.out y HY.out)
  generalize cmF F x y = C at *
  generalize (F x).getD 0 = fx at *
  generalize (F y).getD 0 = fy at *
  have H0 := Kp.mk (show DrN w w.drew from ⟨1, rfl⟩)
  haveI hne : Nonempty (InS (DrN w)) := ⟨⟨_, H0.out⟩⟩
  clear h h1 h2 hx hy
  by_cases he : fx = fy
  · subst he
    have hC := HC.out.trans (if_pos rfl)
    subst hC
    have hb1 : (fx != fx) = false := by simp
    go_enter Try.func39, Try.ntmps39
    go_upto_region 1 with fail
    refine region_in (DrN w) (by kernel_rfl) (by kernel_rfl) H0.out ?_
    repeat (go_big_quiet_step (fail))
    refine wpQuiet_nil ?_
    intro _ hw'
    obtain ⟨wq, rfl⟩ := hw'
    go_wp2_with fail
    refine (cmpc_any x y _).mono ?_
    rintro e w1 ⟨rfl, rfl⟩
    go_wp2_with fail
    go_ret
    exact ⟨rfl, wq.ok⟩
  · have hC := HC.out.trans (if_neg he)
    subst hC
    have hb1 : (fx != fy) = true := by simp [he]
    go_enter Try.func39, Try.ntmps39
    go_upto_region 1 with fail
    refine region_in (DrN w) (by kernel_rfl) (by kernel_rfl) H0.out ?_
    repeat (go_big_quiet_step (fail))
    refine wpQuiet_nil ?_
    intro _ hw'
    obtain ⟨wq, rfl⟩ := hw'
    go_upto_region 2 with fail
    refine region_in (DrN w) (by kernel_rfl) (by kernel_rfl) (by obtain ⟨q, e⟩ := wq.ok; rw [e]; exact ⟨q + 1, rfl⟩) ?_
    repeat (go_big_quiet_step (first
      | (go_at_call 40; exact call_in fun w h => (cmpc_any fx fy w).mono fun _ _ h2 => ⟨h2.1, h2.2 ▸ h⟩)))
    refine wpQuiet_nil ?_
    intro _ hw'
    obtain ⟨wr, rfl⟩ := hw'
    go_wp2_with fail
    go_ret
    exact ⟨rfl, wr.ok⟩
end Go.Proofs.Ytpgnekejemockaa
