/- How bodies go out (layer 36): the law PlanFits. -/
import Derived.Test.YtgkbaijnbohjdaaProg
import Derived.WalkKit
import Derived.WalkSpells
import Derived.WalkLawsBesides
import Derived.Lib.Hide
import Derived.Deep.Light
import Derived.Deep.RegionWith
import Derived.Deep.DeepCutAuto
namespace Go.Proofs.Ytgkbaijnbohjdaa
open Go.RowKit
set_option linter.unusedVariables false
set_option linter.unusedSimpArgs false

theorem below_thn {w w1 w2 : World} (h : Below w.heap.size w w1) (h2 : Below w1.heap.size w1 w2) : Below w.heap.size w w2 := h.trans (h2.mono h.size)
theorem below_setk {B : Nat} {a w : World} (h : Below B a w) (b o : Nat) (hb : B ≤ b) (v : Value) : Below B a (w.setCell ⟨b, o, none⟩ v) := h.setCell hb v
theorem below_al {a w : World} (h : Below a.heap.size a w) (o : Obj) : Below a.heap.size a (w.alloc o) := h.alloc h.size o
theorem bcell {W w1 : World} (hb : Below W.heap.size W w1) : (∀ b o, b < W.heap.size → w1.cell? ⟨b, o, none⟩ = W.cell? ⟨b, o, none⟩) ∧ (∀ b o, b < W.heap.size → w1.frozen? ⟨b, o, none⟩ = W.frozen? ⟨b, o, none⟩) :=
  ⟨fun b o h => hb.cell (p := ⟨b, o, none⟩) h, fun b o h => hb.frozen (p := ⟨b, o, none⟩) h⟩

/-- What Request tells. -/
def ReqRel (kind len cm k l : Int) (kp : Bool) : Prop :=
  (kind = 2 ∧ cm ≤ 0 ∧ k = 1 ∧ l = 0 ∧ kp = true) ∨ (kind = 2 ∧ 0 < cm ∧ k = 2 ∧ l = len ∧ kp = false) ∨ (kind = 0 ∧ k = 0 ∧ l = len ∧ kp = false) ∨ (kind = 1 ∧ k = 1 ∧ l = len ∧ kp = false) ∨ ((kind < 0 ∨ 2 < kind) ∧ k = 0 ∧ l = 0 ∧ kp = false)

set_option maxHeartbeats 400000 in
theorem old_any (B : Nat) (cm : Int) (w : World) (h : w.cell? ⟨B, 2, none⟩ = some (.int .i64 cm)) :
    Calls Try.prog 23 #[.pointer (some ⟨B, 0, none⟩)] w fun e w' => e = .returned (.bool (decide (cm ≤ 0))) ∧ w = w' := by
  go_enter Try.func23, Try.ntmps23
  go_wp2
  go_ret
  exact ⟨rfl, rfl⟩

set_option maxHeartbeats 400000 in
theorem kept_any (w : World) :
    Calls Try.prog 24 #[] w fun e w' => e = .returned (.agg #[.int .i64 1, .int .i64 0, .bool true, .int .i64 0]) ∧ Below w.heap.size w w' := by
  go_enter Try.func24, Try.ntmps24
  go_wp2
  exact bodyPost_ret (v := .agg #[.int .i64 1, .int .i64 0, .bool true, .int .i64 0]) (by simp [results, Try.results24, go_sem]) rfl ⟨rfl, by repeat (first | exact Below.refl _ _ | refine below_setk ?_ _ _ (by omega) _ | refine below_al ?_ _)⟩

set_option maxHeartbeats 800000 in
theorem request_any (kind len : Int) (n0 n1 : ByteArray) (cm st c4 c5 ck c7 c8 c9 c10 c11 c12 l0 l1 l2 l3 l4 : Int) (k l : Int) (kp : Bool) (h : ReqRel kind len cm k l kp) (w : World) :
    Calls Try.prog 6 #[.agg #[.int .i64 kind, .int .i64 len], .agg #[.string n0, .string n1, .int .i64 cm, .int .i64 st, .int .i64 c4, .int .i64 c5, .int .i64 ck, .int .i64 c7, .int .i64 c8, .int .i64 c9, .int .i64 c10, .int .i64 c11, .int .i64 c12, .int .i64 l0, .int .i64 l1, .int .i64 l2, .int .i64 l3, .int .i64 l4]] w fun e w' => e = .returned (.agg #[.int .i64 k, .int .i64 l, .bool kp, .int .i64 0]) ∧ Below w.heap.size w w' := by
  have hmf : ∀ (fn : Fn) (first cap : Array Value) (w : World), (Instr.makeFunc fn first cap).run Try.prog w = .ok (.func fn first cap) w := fun _ _ _ _ => rfl
  rcases h with ⟨rfl, hc, rfl, rfl, rfl⟩ | ⟨rfl, hc, rfl, rfl, rfl⟩ | ⟨rfl, rfl, rfl, rfl⟩ | ⟨rfl, rfl, rfl, rfl⟩ | ⟨hk, rfl, rfl, rfl⟩
  · go_enter Try.func6, Try.ntmps6
    go_wp2_with fail
    refine (old_any _ cm _ ?_).mono ?_
    · go_simp
    · rintro e w' ⟨rfl, rfl⟩
      go_wp2_with fail
      refine (kept_any _).mono ?_
      rintro e w1 ⟨rfl, hb1⟩
      obtain ⟨hcc, hff⟩ := bcell hb1
      have hz : w.heap.size + 1 + 1 < w1.heap.size := by have := hb1.size; simp at this; omega
      have hbK : Below w.heap.size w w1 := below_thn (by repeat (first | exact Below.refl _ _ | refine below_al ?_ _)) hb1
      go_wp2
      exact bodyPost_ret (v := .agg #[.int .i64 1, .int .i64 0, .bool true, .int .i64 0]) (by simp [results, Try.results6, go_sem, hcc, hff, hz]) rfl ⟨rfl, by repeat (first | exact Below.refl _ _ | exact hbK | refine below_setk ?_ _ _ (by omega) _ | refine below_al ?_ _)⟩
  · go_enter Try.func6, Try.ntmps6
    go_wp2_with fail
    refine (old_any _ cm _ ?_).mono ?_
    · go_simp
    · rintro e w' ⟨rfl, rfl⟩
      go_wp2
      exact bodyPost_ret (v := .agg #[.int .i64 2, .int .i64 l, .bool false, .int .i64 0]) (by simp [results, Try.results6, go_sem]) rfl ⟨rfl, by repeat (first | exact Below.refl _ _ | refine below_setk ?_ _ _ (by omega) _ | refine below_al ?_ _)⟩
  · go_enter Try.func6, Try.ntmps6
    go_wp2
    exact bodyPost_ret (v := .agg #[.int .i64 0, .int .i64 l, .bool false, .int .i64 0]) (by simp [results, Try.results6, go_sem]) rfl ⟨rfl, by repeat (first | exact Below.refl _ _ | refine below_setk ?_ _ _ (by omega) _ | refine below_al ?_ _)⟩
  · go_enter Try.func6, Try.ntmps6
    go_wp2
    exact bodyPost_ret (v := .agg #[.int .i64 1, .int .i64 l, .bool false, .int .i64 0]) (by simp [results, Try.results6, go_sem]) rfl ⟨rfl, by repeat (first | exact Below.refl _ _ | refine below_setk ?_ _ _ (by omega) _ | refine below_al ?_ _)⟩
  · have q0 : (kind == 0) = false := by rw [beq_eq_false_iff_ne]; omega
    have q1 : (kind == 1) = false := by rw [beq_eq_false_iff_ne]; omega
    have q2 : (kind == 2) = false := by rw [beq_eq_false_iff_ne]; omega
    go_enter Try.func6, Try.ntmps6
    go_wp2
    exact bodyPost_ret (v := .agg #[.int .i64 0, .int .i64 0, .bool false, .int .i64 0]) (by simp [results, Try.results6, go_sem]) rfl ⟨rfl, by repeat (first | exact Below.refl _ _ | refine below_setk ?_ _ _ (by omega) _ | refine below_al ?_ _)⟩

/-- What Response tells. -/
def RespRel (kind len minor st ck k l : Int) (kp : Bool) (chk : Int) : Prop :=
  (kind = 2 ∧ minor ≤ 0 ∧ (st == 0) = false ∧ k = 3 ∧ l = 0 ∧ kp = false ∧ chk = 0) ∨ (kind = 2 ∧ minor ≤ 0 ∧ st = 0 ∧ k = 1 ∧ l = 0 ∧ kp = true ∧ chk = 0) ∨ (kind = 2 ∧ 0 < minor ∧ k = 2 ∧ l = len ∧ kp = false ∧ chk = 0) ∨
  (kind = 3 ∧ 0 < minor ∧ k = 2 ∧ l = 0 ∧ kp = false ∧ chk = ck) ∨ (kind = 3 ∧ minor ≤ 0 ∧ k = 3 ∧ l = len ∧ kp = false ∧ chk = 0) ∨ (kind = 0 ∧ k = 0 ∧ l = len ∧ kp = false ∧ chk = 0) ∨ (kind = 1 ∧ k = 1 ∧ l = len ∧ kp = false ∧ chk = 0) ∨
  ((kind < 0 ∨ 3 < kind) ∧ k = 0 ∧ l = 0 ∧ kp = false ∧ chk = 0)

set_option maxHeartbeats 400000 in
theorem old2_any (B : Nat) (minor : Int) (w : World) (h : w.cell? ⟨B, 0, none⟩ = some (.int .i64 minor)) :
    Calls Try.prog 25 #[.pointer (some ⟨B, 0, none⟩)] w fun e w' => e = .returned (.bool (decide (minor ≤ 0))) ∧ w = w' := by
  go_enter Try.func25, Try.ntmps25
  go_wp2
  go_ret
  exact ⟨rfl, rfl⟩

set_option maxHeartbeats 1600000 in
theorem response_any (kind len minor : Int) (n0 n1 : ByteArray) (cm st c4 c5 ck c7 c8 c9 c10 c11 c12 l0 l1 l2 l3 l4 : Int) (k l : Int) (kp : Bool) (chk : Int) (h : RespRel kind len minor st ck k l kp chk) (w : World) :
    Calls Try.prog 7 #[.agg #[.int .i64 kind, .int .i64 len], .int .i64 minor, .agg #[.string n0, .string n1, .int .i64 cm, .int .i64 st, .int .i64 c4, .int .i64 c5, .int .i64 ck, .int .i64 c7, .int .i64 c8, .int .i64 c9, .int .i64 c10, .int .i64 c11, .int .i64 c12, .int .i64 l0, .int .i64 l1, .int .i64 l2, .int .i64 l3, .int .i64 l4]] w fun e w' => e = .returned (.agg #[.int .i64 k, .int .i64 l, .bool kp, .int .i64 chk]) ∧ Below w.heap.size w w' := by
  have hmf : ∀ (fn : Fn) (first cap : Array Value) (w : World), (Instr.makeFunc fn first cap).run Try.prog w = .ok (.func fn first cap) w := fun _ _ _ _ => rfl
  rcases h with ⟨rfl, hc, hs, rfl, rfl, rfl, rfl⟩ | ⟨rfl, hc, rfl, rfl, rfl, rfl, rfl⟩ | ⟨rfl, hc, rfl, rfl, rfl, rfl⟩ | ⟨rfl, hc, rfl, rfl, rfl, rfl⟩ | ⟨rfl, hc, rfl, rfl, rfl, rfl⟩ | ⟨rfl, rfl, rfl, rfl, rfl⟩ | ⟨rfl, rfl, rfl, rfl, rfl⟩ | ⟨hk, rfl, rfl, rfl, rfl⟩
  · have hs2 : (st != 0) = true := by simp [bne, hs]
    go_enter Try.func7, Try.ntmps7
    go_wp2_with fail
    refine (old2_any _ minor _ ?_).mono ?_
    · go_simp
    rintro e w' ⟨rfl, rfl⟩
    go_wp2
    exact bodyPost_ret (v := .agg #[.int .i64 3, .int .i64 0, .bool false, .int .i64 0]) (by simp [results, Try.results7, go_sem]) rfl ⟨rfl, by repeat (first | exact Below.refl _ _ | exact hbK | refine below_setk ?_ _ _ (by omega) _ | refine below_al ?_ _)⟩
  · go_enter Try.func7, Try.ntmps7
    go_wp2_with fail
    refine (old2_any _ minor _ ?_).mono ?_
    · go_simp
    rintro e w' ⟨rfl, rfl⟩
    go_wp2_with fail
    refine (old2_any _ minor _ ?_).mono ?_
    · go_simp
    rintro e w' ⟨rfl, rfl⟩
    go_wp2_with fail
    refine (kept_any _).mono ?_
    rintro e w1 ⟨rfl, hb1⟩
    obtain ⟨hcc, hff⟩ := bcell hb1
    have hz : w.heap.size + 1 + 1 + 1 < w1.heap.size := by have := hb1.size; simp at this; omega
    have hbK : Below w.heap.size w w1 := below_thn (by repeat (first | exact Below.refl _ _ | refine below_al ?_ _)) hb1
    go_wp2
    exact bodyPost_ret (v := .agg #[.int .i64 1, .int .i64 0, .bool true, .int .i64 0]) (by simp [results, Try.results7, go_sem, hcc, hff, hz]) rfl ⟨rfl, by repeat (first | exact Below.refl _ _ | exact hbK | refine below_setk ?_ _ _ (by omega) _ | refine below_al ?_ _)⟩
  · go_enter Try.func7, Try.ntmps7
    go_wp2_with fail
    refine (old2_any _ minor _ ?_).mono ?_
    · go_simp
    rintro e w' ⟨rfl, rfl⟩
    go_wp2_with fail
    refine (old2_any _ minor _ ?_).mono ?_
    · go_simp
    rintro e w' ⟨rfl, rfl⟩
    go_wp2
    exact bodyPost_ret (v := .agg #[.int .i64 2, .int .i64 l, .bool false, .int .i64 0]) (by simp [results, Try.results7, go_sem]) rfl ⟨rfl, by repeat (first | exact Below.refl _ _ | exact hbK | refine below_setk ?_ _ _ (by omega) _ | refine below_al ?_ _)⟩
  · go_enter Try.func7, Try.ntmps7
    go_wp2_with fail
    refine (old2_any _ minor _ ?_).mono ?_
    · go_simp
    rintro e w' ⟨rfl, rfl⟩
    rw [show decide (minor ≤ 0) = false from by simp; omega]
    go_wp2
    exact bodyPost_ret (v := .agg #[.int .i64 2, .int .i64 0, .bool false, .int .i64 chk]) (by simp [results, Try.results7, go_sem]) rfl ⟨rfl, by repeat (first | exact Below.refl _ _ | exact hbK | refine below_setk ?_ _ _ (by omega) _ | refine below_al ?_ _)⟩
  · go_enter Try.func7, Try.ntmps7
    go_wp2_with fail
    refine (old2_any _ minor _ ?_).mono ?_
    · go_simp
    rintro e w' ⟨rfl, rfl⟩
    rw [show decide (minor ≤ 0) = true from by simp; omega]
    go_wp2
    exact bodyPost_ret (v := .agg #[.int .i64 3, .int .i64 l, .bool false, .int .i64 0]) (by simp [results, Try.results7, go_sem]) rfl ⟨rfl, by repeat (first | exact Below.refl _ _ | exact hbK | refine below_setk ?_ _ _ (by omega) _ | refine below_al ?_ _)⟩
  · go_enter Try.func7, Try.ntmps7
    go_wp2
    exact bodyPost_ret (v := .agg #[.int .i64 0, .int .i64 l, .bool false, .int .i64 0]) (by simp [results, Try.results7, go_sem]) rfl ⟨rfl, by repeat (first | exact Below.refl _ _ | exact hbK | refine below_setk ?_ _ _ (by omega) _ | refine below_al ?_ _)⟩
  · go_enter Try.func7, Try.ntmps7
    go_wp2
    exact bodyPost_ret (v := .agg #[.int .i64 1, .int .i64 l, .bool false, .int .i64 0]) (by simp [results, Try.results7, go_sem]) rfl ⟨rfl, by repeat (first | exact Below.refl _ _ | exact hbK | refine below_setk ?_ _ _ (by omega) _ | refine below_al ?_ _)⟩
  · have q2 : (kind == 2) = false := by rw [beq_eq_false_iff_ne]; omega
    have q3 : (kind == 3) = false := by rw [beq_eq_false_iff_ne]; omega
    rcases hk with hk | hk
    all_goals
      go_enter Try.func7, Try.ntmps7
      go_wp2
      exact bodyPost_ret (v := .agg #[.int .i64 0, .int .i64 0, .bool false, .int .i64 0]) (by simp [results, Try.results7, go_sem]) rfl ⟨rfl, by repeat (first | exact Below.refl _ _ | exact hbK | refine below_setk ?_ _ _ (by omega) _ | refine below_al ?_ _)⟩
end Go.Proofs.Ytgkbaijnbohjdaa
