/- A link and the document's, call by call (layer 38). -/
import Derived.Test.YtlgeebclphcnjaaLkc
import Derived.Test.YtlgeebclphcnjaaQs
namespace Go.Proofs.Ytlgeebclphcnjaa
open Go.RowKit
set_option linter.unusedVariables false
set_option linter.unusedSimpArgs false

structure Lst where
  S : List UInt8
  O : List UInt8
  e0 : Bool
  e1 : Bool
def Lst.act (M : Nat) (x : Lst) (op n : Int) (t : ByteArray) : Lst :=
  if op = 1 then { x with S := x.S ++ t.data.toList.take (giveN x.e0 x.e1 M x.S t) }
  else if op = 2 then { x with e0 := true }
  else if op = 3 then { x with S := x.S.drop n.toNat }
  else if op = 4 then { x with O := wroteO x.e1 x.O t }
  else if op = 5 then { x with O := x.O.drop n.toNat }
  else if op = 6 then { x with S := [], e1 := true }
  else x
/-- A link, the document's, and a box beside them. -/
structure LAct (F : Nat → Prop) (b qb qg c bx M : Nat) (x y : Lst) (cells : Array Value) (t : TypeId) (W w' : World) : Prop where
  k : LK F b qb qg M x.S x.O x.e0 x.e1 w'
  r : RL c M y.S y.O y.e0 y.e1 w'
  box : w'.heap[bx]? = some (.cells cells t (0, 0))
  kpt : Kpt (fun j => F j ∧ j ≠ c) W w'
  fc : F c
  fbx : F bx
  cb : c ≠ bx
theorem LAct.onk {F : Nat → Prop} {b qb qg c bx M : Nat} {x x2 y : Lst} {cells : Array Value} {t : TypeId} {W w' w2 : World} (h : LAct F b qb qg c bx M x y cells t W w') (hk : LK F b qb qg M x2.S x2.O x2.e0 x2.e1 w2) (hK : Kpt F w' w2) : LAct F b qb qg c bx M x2 y cells t W w2 :=
  ⟨hk, h.r.kept (hK.block c (blk_lt h.r.blk) h.fc), (hK.block bx (blk_lt h.box) h.fbx).trans h.box, h.kpt.trans (hK.mono fun _ h => h.1), h.fc, h.fbx, h.cb⟩
theorem LAct.onr {F : Nat → Prop} {b qb qg c bx M : Nat} {x y y2 : Lst} {cells : Array Value} {t : TypeId} {W w' w2 : World} (h : LAct F b qb qg c bx M x y cells t W w') (hr : RLTo c M y2.S y2.O y2.e0 y2.e1 w' w2) : LAct F b qb qg c bx M x y2 cells t W w2 :=
  ⟨h.k.other fun k hk hF => hr.2.block k hk (fun e => hF (e ▸ h.fc)) (by simp), hr.1, (hr.2.block bx (blk_lt h.box) h.cb.symm (by simp)).trans h.box,
    h.kpt.trans ⟨hr.2.os, hr.2.tape, hr.2.output, hr.2.size, fun k hk hF => hr.2.block k hk hF.2 (by simp)⟩, h.fc, h.fbx, h.cb⟩
theorem LAct.below {F : Nat → Prop} {b qb qg c bx M : Nat} {x y : Lst} {cells : Array Value} {t : TypeId} {W w' w2 : World} (h : LAct F b qb qg c bx M x y cells t W w') (hb : Below w'.heap.size w' w2) : LAct F b qb qg c bx M x y cells t W w2 :=
  h.onk (h.k.below hb) (Kpt.of hb)
theorem LAct.drewN {F : Nat → Prop} {b qb qg c bx M : Nat} {x y : Lst} {cells : Array Value} {t : TypeId} {W w' : World} (h : LAct F b qb qg c bx M x y cells t W w') (n : Nat) : LAct F b qb qg c bx M x y cells t W (w'.drewN n) := h.below (gdrewN _ n)
theorem LAct.drew {F : Nat → Prop} {b qb qg c bx M : Nat} {x y : Lst} {cells : Array Value} {t : TypeId} {W w' : World} (h : LAct F b qb qg c bx M x y cells t W w') : LAct F b qb qg c bx M x y cells t W w'.drew := h.drewN 1
theorem LAct.set {F : Nat → Prop} {b qb qg c bx M i : Nat} {x y : Lst} {cells : Array Value} {t : TypeId} {W w' : World} (h : LAct F b qb qg c bx M x y cells t W w') (S O : List UInt8) (e0 e1 : Bool) (v : Value)
    (hv : (#[Value.string (oB y.S), .string (oB y.O), .int .i64 M, .bool y.e0, .bool y.e1]).setIfInBounds i v = #[Value.string (oB S), .string (oB O), .int .i64 M, .bool e0, .bool e1]) : LAct F b qb qg c bx M x ⟨S, O, e0, e1⟩ cells t W (w'.setCell ⟨c, i, none⟩ v) :=
  ⟨h.k.set h.fc _ _, ⟨by rw [blk_set h.r.blk, hv]⟩, blk_set_other h.box h.cb.symm _, h.kpt.setCell _ _ (by simp), h.fc, h.fbx, h.cb⟩
def LActTo (F : Nat → Prop) (b qb qg c M : Nat) (x : Lst) (w w' : World) : Prop := LK F b qb qg M x.S x.O x.e0 x.e1 w' ∧ RL c M x.S x.O x.e0 x.e1 w' ∧ Kpt (fun j => F j ∧ j ≠ c) w w'
theorem LAct.to {F G : Nat → Prop} {b qb qg c bx M : Nat} {x : Lst} {cells : Array Value} {t : TypeId} {W w' : World} (h : LAct F b qb qg c bx M x x cells t W w') (hG : ∀ k, G k → F k) : LActTo G b qb qg c M x W w' :=
  ⟨h.k.mono hG, h.r, h.kpt.mono fun k hk => ⟨hG k hk.1, hk.2⟩⟩
set_option maxRecDepth 100000 in
set_option maxHeartbeats 2000000 in
theorem act38_any (F : Nat → Prop) (b qb qg c M : Nat) (x : Lst) (op n : Int) (t : ByteArray) (w : World) (hk : LK F b qb qg M x.S x.O x.e0 x.e1 w) (hr : RL c M x.S x.O x.e0 x.e1 w) (hc : F c) (hF : ∀ k, F k → k < w.heap.size)
    (hM : M ≤ 100000) (hO : x.O.length ≤ 1000000) (ht : t.size ≤ 100000) :
    Calls Try.prog 19 #[.pointer (some ⟨b, 0, none⟩), .pointer (some ⟨c, 0, none⟩), .agg #[.int .i64 op, .int .i64 n, .string t]] w fun e w' => e = .returned (.bool true) ∧ LActTo F b qb qg c M (x.act M op n t) w w' := by
  have hs := hk.le
  have hcl := blk_lt hr.blk
  have HST := Kp.mk (show LAct (fun k => F k ∨ k = w.heap.size) b qb qg c w.heap.size M x x #[.int .i64 op, .int .i64 n, .string t] 41 w (w.alloc (.cells #[.int .i64 op, .int .i64 n, .string t] 41)) from
    ⟨(hk.add w.heap.size (Nat.le_refl _)).below ((Below.refl _ _).alloc (Nat.le_refl _) _), hr.kept (Below.heap_alloc _ _ _ hcl), heap_alloc_new w _, Kpt.of ((Below.refl _ _).alloc (Nat.le_refl _) _), .inl hc, .inr rfl, by omega⟩)
  have HFS := Kp.mk (show ∀ w2 : World, w.heap.size < w2.heap.size → ∀ k, (F k ∨ k = w.heap.size) → k < w2.heap.size from fun w2 h k hk => by rcases hk with hk | rfl; have := hF k hk; omega; exact h)
  have HMN := Kp.mk (show ∀ k, F k → (F k ∨ k = w.heap.size) from fun k h => .inl h)
  have hbx1 : ∀ i v, (#[Value.int .i64 op, .int .i64 n, .string t])[i]? = some v → (w.alloc (.cells #[.int .i64 op, .int .i64 n, .string t] 41)).cell? ⟨w.heap.size, i, none⟩ = some v := fun i v h => blk_cell (heap_alloc_new w _) h
  have b0 := hbx1 0 _ rfl
  have b1 := hbx1 1 _ rfl
  have b2 := hbx1 2 _ rfl
  clear hbx1 hk hr hc hF
  have hway : op = 1 ∨ op = 2 ∨ op = 3 ∨ op = 4 ∨ op = 5 ∨ op = 6 ∨ (op ≠ 1 ∧ op ≠ 2 ∧ op ≠ 3 ∧ op ≠ 4 ∧ op ≠ 5 ∧ op ≠ 6) := by omega
  rcases hway with rfl | rfl | rfl | rfl | rfl | rfl | ⟨o1, o2, o3, o4, o5, o6⟩
  · have HX := Kp.mk (show x.act M 1 n t = { x with S := x.S ++ t.data.toList.take (giveN x.e0 x.e1 M x.S t) } from rfl)
    go_enter Try.func19, Try.ntmps19
    go_wp2_with fail
    first
      | go_region_with (first
          | (go_at_call 30; refine (lk_give _ _ _ _ _ _ _ _ _ _ _ (by first | exact HR.out.k | exact HST.out.drew.k) (by omega)).mono ?_; rintro e wq ⟨rfl, hq, hoq⟩; have HK := Kp.mk (LAct.onk (x2 := { x with S := x.S ++ t.data.toList.take (giveN x.e0 x.e1 M x.S t) }) (by first | exact HR.out | exact HST.out.drew) hq hoq); have dq := blk_cell (i := 2) HK.out.box rfl; clear hq hoq)
          | (go_at_call 59; refine (rl_give _ _ _ _ _ _ _ _ (by first | exact HK.out.r | exact HST.out.drew.r) (by omega) (by omega) (by omega)).mono ?_; rintro e wq2 ⟨rfl, hr⟩; have HR := Kp.mk (LAct.onr (y2 := { x with S := x.S ++ t.data.toList.take (giveN x.e0 x.e1 M x.S t) }) (by first | exact HK.out | exact HST.out.drew) hr); have dr := blk_cell (i := 2) HR.out.box rfl; clear hr))
      | fail
    all_goals
      go_wp2_with fail
      go_ret
      refine ⟨?_, by rw [HX.out]; first | exact HR.out.to HMN.out | exact HK.out.to HMN.out⟩
      first | rfl | simp
  · have HX := Kp.mk (show x.act M 2 n t = { x with e0 := true } from rfl)
    go_enter Try.func19, Try.ntmps19
    go_wp2_with fail
    refine (lk_end _ _ _ _ _ _ _ _ _ _ HST.out.k).mono ?_
    rintro e w1 ⟨rfl, hq, ho⟩
    have HK := Kp.mk (HST.out.onk (x2 := { x with e0 := true }) hq ho)
    have k3 := blk_free (i := 3) HK.out.r.blk
    have d3 := blk_cell (i := 3) HK.out.r.blk rfl
    clear hq ho
    go_wp2_with fail
    go_ret
    exact ⟨rfl, by rw [HX.out]; exact (HK.out.set (i := 3) x.S x.O true x.e1 _ rfl).to HMN.out⟩
  · have HX := Kp.mk (show x.act M 3 n t = { x with S := x.S.drop n.toNat } from rfl)
    go_enter Try.func19, Try.ntmps19
    go_wp2_with fail
    refine (lk_use _ _ _ _ _ _ _ _ _ _ _ HST.out.k).mono ?_
    rintro e w1 ⟨rfl, hq, ho⟩
    have HK := Kp.mk (HST.out.onk (x2 := { x with S := x.S.drop n.toNat }) hq ho)
    have d1 := blk_cell (i := 1) HK.out.box rfl
    clear hq ho
    go_wp2_with fail
    refine (rl_use _ _ _ _ _ _ _ _ HK.out.r (by omega)).mono ?_
    rintro e w2 ⟨rfl, hr⟩
    have HR := Kp.mk (HK.out.onr (y2 := { x with S := x.S.drop n.toNat }) hr)
    clear hr
    go_wp2_with fail
    go_ret
    exact ⟨rfl, by rw [HX.out]; exact HR.out.to HMN.out⟩
  · have HX := Kp.mk (show x.act M 4 n t = { x with O := wroteO x.e1 x.O t } from rfl)
    go_enter Try.func19, Try.ntmps19
    go_wp2_with fail
    refine (lk_write _ _ _ _ _ _ _ _ _ _ _ HST.out.k (by omega) (HFS.out _ (by simp))).mono ?_
    rintro e w1 ⟨rfl, hq, ho⟩
    have HK := Kp.mk (HST.out.onk (x2 := { x with O := wroteO x.e1 x.O t }) hq ho)
    have d1 := blk_cell (i := 2) HK.out.box rfl
    clear hq ho
    go_wp2_with fail
    refine (rl_write _ _ _ _ _ _ _ _ HK.out.r (by omega) (by omega)).mono ?_
    rintro e w2 ⟨rfl, hr⟩
    have HR := Kp.mk (HK.out.onr (y2 := { x with O := wroteO x.e1 x.O t }) hr)
    clear hr
    go_wp2_with fail
    go_ret
    exact ⟨rfl, by rw [HX.out]; exact HR.out.to HMN.out⟩
  · have HX := Kp.mk (show x.act M 5 n t = { x with O := x.O.drop n.toNat } from rfl)
    go_enter Try.func19, Try.ntmps19
    go_wp2_with fail
    first
      | go_region_with (first
          | (go_at_call 31; refine (lk_take _ _ _ _ _ _ _ _ _ _ _ (by first | exact HR.out.k | exact HST.out.drew.k)).mono ?_; rintro e wq ⟨rfl, hq, hoq⟩; have HK := Kp.mk (LAct.onk (x2 := { x with O := x.O.drop n.toNat }) (by first | exact HR.out | exact HST.out.drew) hq hoq); have dq := blk_cell (i := 1) HK.out.box rfl; clear hq hoq)
          | (go_at_call 62; refine (rl_take _ _ _ _ _ _ _ _ (by first | exact HK.out.r | exact HST.out.drew.r) (by omega)).mono ?_; rintro e wq2 ⟨rfl, hr⟩; have HR := Kp.mk (LAct.onr (y2 := { x with O := x.O.drop n.toNat }) (by first | exact HK.out | exact HST.out.drew) hr); have dr := blk_cell (i := 1) HR.out.box rfl; clear hr))
      | fail
    all_goals
      go_wp2_with fail
      go_ret
      refine ⟨?_, by rw [HX.out]; first | exact HR.out.to HMN.out | exact HK.out.to HMN.out⟩
      first | rfl | simp
  · have HX := Kp.mk (show x.act M 6 n t = { x with S := [], e1 := true } from rfl)
    go_enter Try.func19, Try.ntmps19
    go_wp2_with fail
    refine (lk_shut _ _ _ _ _ _ _ _ _ _ HST.out.k).mono ?_
    rintro e w1 ⟨rfl, hq, ho⟩
    have HK := Kp.mk (HST.out.onk (x2 := { x with S := [], e1 := true }) hq ho)
    have k4 := blk_free (i := 4) HK.out.r.blk
    have d4 := blk_cell (i := 4) HK.out.r.blk rfl
    have k0 := blk_free (i := 0) HK.out.r.blk
    have d0 := blk_cell (i := 0) HK.out.r.blk rfl
    clear hq ho
    go_wp2_with fail
    go_ret
    exact ⟨rfl, by rw [HX.out]; exact ((HK.out.set (i := 4) x.S x.O x.e0 true _ rfl).set (i := 0) [] x.O x.e0 true _ rfl).to HMN.out⟩
  · have HX := Kp.mk (show x.act M op n t = x by unfold Lst.act; simp [o1, o2, o3, o4, o5, o6])
    have p1 : (op == 1) = false := i64nq o1
    have p2 : (op == 2) = false := i64nq o2
    have p3 : (op == 3) = false := i64nq o3
    have p4 : (op == 4) = false := i64nq o4
    have p5 : (op == 5) = false := i64nq o5
    have p6 : (op == 6) = false := i64nq o6
    clear o1 o2 o3 o4 o5 o6
    go_enter Try.func19, Try.ntmps19
    go_wp2_with fail
    go_ret
    exact ⟨rfl, by rw [HX.out]; exact HST.out.to HMN.out⟩
end Go.Proofs.Ytlgeebclphcnjaa
