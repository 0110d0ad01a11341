/- Layer 42: a call on both. Made by bin/mkwik.py. -/
import Derived.Test.YtpgnekejemockaaWij
namespace Go.Proofs.Ytpgnekejemockaa
open Go.RowKit
set_option linter.unusedVariables false
set_option linter.unusedSimpArgs false

structure WD (F0 A : Nat → Prop) (b kb qb qg c M : Nat) (x : Wst) (w : World) : Prop where
  wr : WR A b x.rd x.en x.s1 x.s2 w
  al : ∀ k, A k → k < w.heap.size
  an : ∀ k, A k → ¬ F0 k
  lk : LK (fun k => F0 k ∨ A k) kb qb qg M x.S x.O x.e0 x.e1 w
  ry : RY c (x.ld b kb) M x.S x.O x.e0 x.e1 w
  fc : F0 c
  fl : ∀ k, F0 k → k < w.heap.size
theorem WD.box {F0 A : Nat → Prop} {b kb qb qg c M : Nat} {x : Wst} {w : World} (h : WD F0 A b kb qb qg c M x w) (cells : Array Value) (t : TypeId) :
    WA (fun k => F0 k ∨ k = w.heap.size) A b kb qb qg c w.heap.size M x x cells t w (w.alloc (.cells cells t)) := by
  have hb : Below w.heap.size w (w.alloc (.cells cells t)) := (Below.refl _ w).alloc (Nat.le_refl _) _
  have hsz : (w.alloc (.cells cells t)).heap.size = w.heap.size + 1 := by simp
  have hcl := blk_lt h.ry.blk
  refine ⟨h.wr.below hb, fun k hk => by have := h.al k hk; omega, fun k hk hf => ?_, (h.lk.addAll (G := fun k => (F0 k ∨ k = w.heap.size) ∨ A k) fun k hk => ?_).below hb, h.ry.kept (hb.block c hcl), .inl h.fc, .inr rfl, by omega, fun k hk => ?_, heap_alloc_new w _, Kpt.of hb⟩
  · rcases hf with hf | hf
    · exact h.an k hk hf
    · have := h.al k hk; omega
  · rcases hk with (hk | hk) | hk
    · exact .inl (.inl hk)
    · exact .inr (by omega)
    · exact .inl (.inr hk)
  · rcases hk with hk | hk
    · have := h.fl k hk; omega
    · omega
def WDTo (F0 : Nat → Prop) (b kb qb qg c M : Nat) (x : Wst) (w w' : World) : Prop := ∃ A, WD F0 A b kb qb qg c M x w' ∧ Kpt (fun k => F0 k ∧ k ≠ c) w w'
theorem WA.to {F0 A : Nat → Prop} {b kb qb qg c bx M n : Nat} {x : Wst} {cells : Array Value} {t : TypeId} {W w : World} (h : WA (fun k => F0 k ∨ k = n) A b kb qb qg c bx M x x cells t W w) (hc : F0 c) : WDTo F0 b kb qb qg c M x W w :=
  ⟨A, ⟨h.wr, h.al, fun k hk hf => h.an k hk (.inl hf), h.lk.mono fun k hk => hk.elim (fun h => .inl (.inl h)) .inr, h.ry, hc, fun k hk => h.fl k (.inl hk)⟩, h.kpt.mono fun k hk => ⟨.inl hk.1, hk.2⟩⟩
def Wst.rU (x : Wst) (n : Int) : Nat := min n.toNat (x.s1.size - x.rd)
def Wst.rG (M : Nat) (x : Wst) (n : Int) : Nat := giveN x.e0 x.e1 M x.S (rdT x.s1 x.rd (x.rU n))
def Wst.read (M : Nat) (x : Wst) (n : Int) : Wst := ⟨x.s1, x.s2, x.rd + x.rG M n, x.en, x.S ++ (rdT x.s1 x.rd (x.rU n)).data.toList.take (x.rG M n), x.O, x.e0 || (x.en && decide (x.s1.size - (x.rd + x.rG M n) = 0)), x.e1⟩
def Wst.gU (x : Wst) (n : Int) : Nat := min n.toNat x.O.length
def Wst.grant (x : Wst) (n : Int) : Wst := ⟨x.s1, x.s2 ++ oB (x.O.take (x.gU n)), x.rd, x.en, x.S, x.O.drop (x.gU n), x.e0, x.e1⟩
def Wst.act (M : Nat) (x : Wst) (op n : Int) (t : ByteArray) : Wst :=
  if op = 1 then ⟨if x.en then x.s1 else x.s1 ++ t, x.s2, x.rd, x.en, x.S, x.O, x.e0, x.e1⟩
  else if op = 2 then ⟨x.s1, x.s2, x.rd, true, x.S, x.O, x.e0, x.e1⟩
  else if op = 3 then x.read M n
  else if op = 4 then ⟨x.s1, x.s2, x.rd, x.en, x.S, wroteO x.e1 x.O t, x.e0, x.e1⟩
  else if op = 5 then x.grant n
  else if op = 6 then ⟨x.s1, x.s2, x.rd, x.en, x.S.drop n.toNat, x.O, x.e0, x.e1⟩
  else if op = 7 then ⟨x.s1, x.s2, x.rd, x.en, [], x.O, x.e0, true⟩
  else x
theorem ld_send (x : Wst) (b kb : Nat) (t : ByteArray) (hr : x.rd ≤ x.s1.size) :
    (if (x.ld b kb).en then x.ld b kb else { x.ld b kb with L := (x.ld b kb).L ++ t, many := ((x.s1.size + t.size : Nat) : Int) }) = Wst.ld b kb ⟨if x.en then x.s1 else x.s1 ++ t, x.s2, x.rd, x.en, x.S, x.O, x.e0, x.e1⟩ := by
  obtain ⟨s1, s2, rd, en, S, O, e0, e1⟩ := x
  simp only at hr
  cases en
  · have e1 : (s1 ++ t).extract rd (s1 ++ t).size = s1.extract rd s1.size ++ t := ba_ext2 (by
      rw [Lib.extract_data, cat_app, cat_app, Lib.extract_data, List.drop_append_of_le_length (by rw [← ba_size']; exact hr), List.take_of_length_le (by rw [List.length_append, List.length_drop, ← ba_size', ← ba_size', ByteArray.size_append]; omega), List.take_of_length_le (by rw [List.length_drop, ← ba_size']; omega)])
    rw [ByteArray.size_append] at e1
    simp [Wst.ld, e1, ByteArray.size_append]
  · rfl
theorem ext_ext (s : ByteArray) (r g : Nat) (hr : r ≤ s.size) : (s.extract r s.size).extract g (s.extract r s.size).size = s.extract (r + g) s.size := by
  have hz : (s.extract r s.size).size = s.size - r := by simp
  refine ba_ext2 ?_
  rw [Lib.extract_data, Lib.extract_data, Lib.extract_data, hz, List.take_of_length_le (by rw [List.length_drop, List.length_take, List.length_drop, ← ba_size']; omega), List.take_of_length_le (by rw [List.length_drop, ← ba_size']; omega), List.take_of_length_le (by rw [List.length_drop, ← ba_size']; omega), List.drop_drop]
theorem ext_emp (s : ByteArray) (r : Nat) : decide (s.extract r s.size = ByteArray.empty) = decide (s.size - r = 0) := by
  have hz : (s.extract r s.size).size = s.size - r := by simp
  rw [decide_eq_decide]
  constructor
  · intro h; rw [← hz, h]; rfl
  · intro h; rw [← hz] at h; exact ByteArray.size_eq_zero_iff.1 h
theorem ry_readX (c b kb M : Nat) (x : Wst) (n : Int) (w : World) (h : RY c (x.ld b kb) M x.S x.O x.e0 x.e1 w) (hM : M ≤ 100000) (hS : x.S.length ≤ M) (hr : x.rd ≤ x.s1.size) (h1 : x.s1.size ≤ 100000) :
    Calls Try.prog 59 #[.pointer (some ⟨c, 2, none⟩), .pointer (some ⟨c, 6, none⟩), .int .i64 n] w fun e w' => e = .returned (.int .i64 (x.rG M n : Nat)) ∧
      RYTo c ((x.read M n).ld b kb) M (x.read M n).S (x.read M n).O (x.read M n).e0 (x.read M n).e1 w w' := by
  have hz : (x.ld b kb).L.size = x.s1.size - x.rd := by show (x.s1.extract x.rd x.s1.size).size = _; simp
  refine (ry_read c (x.ld b kb) M x.S x.O x.e0 x.e1 n w h hM hS (by omega) (x.rU n) (by rw [hz]; rfl) (rdT x.s1 x.rd (x.rU n)) rfl).mono ?_
  rintro e w2 ⟨rfl, h2⟩
  refine ⟨rfl, ?_⟩
  have e1 : (x.ld b kb).L.extract (giveN x.e0 x.e1 M x.S (rdT x.s1 x.rd (x.rU n))) (x.ld b kb).L.size = x.s1.extract (x.rd + x.rG M n) x.s1.size := ext_ext x.s1 x.rd _ hr
  rw [e1, ext_emp] at h2
  exact h2
theorem ry_grantX (c b kb M : Nat) (x : Wst) (n : Int) (w : World) (h : RY c (x.ld b kb) M x.S x.O x.e0 x.e1 w) (hO : x.O.length ≤ 1000000) (h2 : x.s2.size ≤ 1000000) :
    Calls Try.prog 63 #[.pointer (some ⟨c, 2, none⟩), .pointer (some ⟨c, 6, none⟩), .int .i64 n] w fun e w' => e = .returned (.int .i64 (x.gU n : Nat)) ∧
      RYTo c ((x.grant n).ld b kb) M (x.grant n).S (x.grant n).O (x.grant n).e0 (x.grant n).e1 w w' := by
  refine (ry_grant c (x.ld b kb) M x.S x.O x.e0 x.e1 n w h hO h2).mono ?_
  have e1 : x.O.take n.toNat = x.O.take (x.gU n) := by
    unfold Wst.gU
    by_cases hh : n.toNat ≤ x.O.length
    · rw [Nat.min_eq_left hh]
    · rw [Nat.min_eq_right (by omega), List.take_of_length_le (by omega), List.take_length]
  have e2 : x.O.drop n.toNat = x.O.drop (x.gU n) := by
    unfold Wst.gU
    by_cases hh : n.toNat ≤ x.O.length
    · rw [Nat.min_eq_left hh]
    · rw [Nat.min_eq_right (by omega), List.drop_of_length_le (by omega), List.drop_length]
  have e3 : (oB (x.O.take n.toNat)).size = x.gU n := by
    rw [oB_size, List.length_take]; rfl
  rintro e w2 ⟨rfl, h2⟩
  rw [e3]
  rw [e1, e2] at h2
  exact ⟨rfl, h2⟩
set_option maxRecDepth 100000 in
set_option maxHeartbeats 2000000 in
theorem act42_any (F0 A : Nat → Prop) (b kb qb qg c M : Nat) (x : Wst) (op n : Int) (t : ByteArray) (w : World) (h : WD F0 A b kb qb qg c M x w) (hM : M ≤ 2000) (hO : x.O.length ≤ 100000) (h1 : x.s1.size ≤ 90000) (h2 : x.s2.size ≤ 90000) (hr : x.rd ≤ x.s1.size) (ht : t.size ≤ 1000) :
    Calls Try.prog 31 #[.pointer (some ⟨c, 0, none⟩), .agg #[.int .i64 op, .int .i64 n, .string t]] w fun e w' => e = .returned (.bool true) ∧ WDTo F0 b kb qb qg c M (x.act M op n t) w w' := by
  have HST := Kp.mk (h.box #[.int .i64 op, .int .i64 n, .string t] 76)
  have HFC := Kp.mk h.fc
  have hbx1 : ∀ i v, (#[Value.int .i64 op, .int .i64 n, .string t])[i]? = some v → (w.alloc (.cells #[.int .i64 op, .int .i64 n, .string t] 76)).cell? ⟨w.heap.size, i, none⟩ = some v := fun i v h => blk_cell (heap_alloc_new w _) h
  have b0 := hbx1 0 _ rfl
  have b1 := hbx1 1 _ rfl
  have b2 := hbx1 2 _ rfl
  have c0 : (w.alloc (.cells #[.int .i64 op, .int .i64 n, .string t] 76)).cell? ⟨c, 0, none⟩ = some (.pointer (some ⟨b, 0, none⟩)) := blk_cell (i := 0) HST.out.ry.blk rfl
  have c1 : (w.alloc (.cells #[.int .i64 op, .int .i64 n, .string t] 76)).cell? ⟨c, 1, none⟩ = some (.pointer (some ⟨kb, 0, none⟩)) := blk_cell (i := 1) HST.out.ry.blk rfl
  have HSL := Kp.mk HST.out.lk.le.1
  have HSM := Kp.mk (show x.S.length ≤ 2000 by have := HST.out.lk.le; omega)
  clear hbx1 h
  have hway : op = 1 ∨ op = 2 ∨ op = 3 ∨ op = 4 ∨ op = 5 ∨ op = 6 ∨ op = 7 ∨ (op ≠ 1 ∧ op ≠ 2 ∧ op ≠ 3 ∧ op ≠ 4 ∧ op ≠ 5 ∧ op ≠ 6 ∧ op ≠ 7) := by omega
  rcases hway with rfl | rfl | rfl | rfl | rfl | rfl | rfl | ⟨o1, o2, o3, o4, o5, o6, o7⟩
  · have HX := Kp.mk (show x.act M 1 n t = ⟨if x.en then x.s1 else x.s1 ++ t, x.s2, x.rd, x.en, x.S, x.O, x.e0, x.e1⟩ from rfl)
    have HLD := Kp.mk (ld_send x b kb t hr)
    obtain ⟨z, hz⟩ : ∃ z : Nat, z = (if x.en = true then 0 else t.size) := ⟨_, rfl⟩
    have HZ := Kp.mk hz.symm
    clear hz
    have HD := Kp.mk (HST.out.drewN 1)
    go_enter Try.func31, Try.ntmps31
    go_wp2_with fail
    refine wp_region_held_drew (S := fun w' => w'.cell? ⟨c, 0, none⟩ = some (.pointer (some ⟨b, 0, none⟩)) ∧ w'.cell? ⟨w.heap.size, 2, none⟩ = some (.string t)) (by kernel_rfl) (⟨blk_cell (i := 0) HD.out.ry.blk rfl, blk_cell (i := 2) HD.out.box rfl⟩) (fun hHeld => ?_)
    refine wpAnyH_take (i := 0) (oi := ⟨some 9, .move (.tmp 0), _, _, _, none⟩) (v := ?_) rfl (by kernel_rfl) (by kernel_rfl) (by kernel_rfl) (fun _ _ _ h => h) (Or.inl ⟨by rfl, ?_⟩) (by assumption) ?_
    rotate_left
    · intro w hSw
      try dsimp only at hSw
      go_simp
      try with_reducible rfl
    try simp only [Act.put, List.setIfInBounds_toArray, List.set_cons_zero, List.set_cons_succ]
    refine wpAnyH_take (i := 1) (oi := ⟨some 10, .nilCheck (.tmp 9), _, _, _, none⟩) (v := ?_) rfl (by kernel_rfl) (by kernel_rfl) (by kernel_rfl) (fun _ _ _ h => h) (Or.inl ⟨by rfl, ?_⟩) (by assumption) ?_
    rotate_left
    · intro w hSw
      try dsimp only at hSw
      go_simp
      try with_reducible rfl
    try simp only [Act.put, List.setIfInBounds_toArray, List.set_cons_zero, List.set_cons_succ]
    refine wpAnyH_take (i := 2) (oi := ⟨some 11, .fieldAddr 74 (.tmp 10) 0, _, _, _, none⟩) (v := ?_) rfl (by kernel_rfl) (by kernel_rfl) (by kernel_rfl) (fun _ _ _ h => h) (Or.inl ⟨by rfl, ?_⟩) (by assumption) ?_
    rotate_left
    · intro w hSw
      try dsimp only at hSw
      go_simp
      try with_reducible rfl
    try simp only [Act.put, List.setIfInBounds_toArray, List.set_cons_zero, List.set_cons_succ]
    refine wpAnyH_take (i := 3) (oi := ⟨some 12, .load 65 (.tmp 11), _, _, _, none⟩) (v := ?_) rfl (by kernel_rfl) (by kernel_rfl) (by kernel_rfl) (fun _ _ _ h => h) (Or.inl ⟨by rfl, ?_⟩) (by assumption) ?_
    rotate_left
    · intro w hSw
      try dsimp only at hSw
      go_simp
      try with_reducible rfl
    try simp only [Act.put, List.setIfInBounds_toArray, List.set_cons_zero, List.set_cons_succ]
    refine wpAnyH_take (i := 4) (oi := ⟨some 13, .fieldAddr 76 (.tmp 3) 2, _, _, _, none⟩) (v := ?_) rfl (by kernel_rfl) (by kernel_rfl) (by kernel_rfl) (fun _ _ _ h => h) (Or.inl ⟨by rfl, ?_⟩) (by assumption) ?_
    rotate_left
    · intro w hSw
      try dsimp only at hSw
      go_simp
      try with_reducible rfl
    try simp only [Act.put, List.setIfInBounds_toArray, List.set_cons_zero, List.set_cons_succ]
    refine wpAnyH_take (i := 5) (oi := ⟨some 14, .load 9 (.tmp 13), _, _, _, none⟩) (v := ?_) rfl (by kernel_rfl) (by kernel_rfl) (by kernel_rfl) (fun _ _ _ h => h) (Or.inl ⟨by rfl, ?_⟩) (by assumption) ?_
    rotate_left
    · intro w hSw
      try dsimp only at hSw
      go_simp
      try with_reducible rfl
    try simp only [Act.put, List.setIfInBounds_toArray, List.set_cons_zero, List.set_cons_succ]
    refine wpAnyH_take (i := 7) (oi := ⟨some 16, .move (.tmp 0), _, _, _, none⟩) (v := ?_) rfl (by kernel_rfl) (by kernel_rfl) (by kernel_rfl) (fun _ _ _ h => h) (Or.inl ⟨by rfl, ?_⟩) (by assumption) ?_
    rotate_left
    · intro w hSw
      try dsimp only at hSw
      go_simp
      try with_reducible rfl
    try simp only [Act.put, List.setIfInBounds_toArray, List.set_cons_zero, List.set_cons_succ]
    refine wpAnyH_take (i := 8) (oi := ⟨some 17, .nilCheck (.tmp 16), _, _, _, none⟩) (v := ?_) rfl (by kernel_rfl) (by kernel_rfl) (by kernel_rfl) (fun _ _ _ h => h) (Or.inl ⟨by rfl, ?_⟩) (by assumption) ?_
    rotate_left
    · intro w hSw
      try dsimp only at hSw
      go_simp
      try with_reducible rfl
    try simp only [Act.put, List.setIfInBounds_toArray, List.set_cons_zero, List.set_cons_succ]
    refine wpAnyH_take (i := 9) (oi := ⟨some 18, .fieldAddr 74 (.tmp 17) 2, _, _, _, none⟩) (v := ?_) rfl (by kernel_rfl) (by kernel_rfl) (by kernel_rfl) (fun _ _ _ h => h) (Or.inl ⟨by rfl, ?_⟩) (by assumption) ?_
    rotate_left
    · intro w hSw
      try dsimp only at hSw
      go_simp
      try with_reducible rfl
    try simp only [Act.put, List.setIfInBounds_toArray, List.set_cons_zero, List.set_cons_succ]
    refine wpAnyH_take (i := 10) (oi := ⟨some 19, .fieldAddr 76 (.tmp 3) 2, _, _, _, none⟩) (v := ?_) rfl (by kernel_rfl) (by kernel_rfl) (by kernel_rfl) (fun _ _ _ h => h) (Or.inl ⟨by rfl, ?_⟩) (by assumption) ?_
    rotate_left
    · intro w hSw
      try dsimp only at hSw
      go_simp
      try with_reducible rfl
    try simp only [Act.put, List.setIfInBounds_toArray, List.set_cons_zero, List.set_cons_succ]
    refine wpAnyH_take (i := 11) (oi := ⟨some 20, .load 9 (.tmp 19), _, _, _, none⟩) (v := ?_) rfl (by kernel_rfl) (by kernel_rfl) (by kernel_rfl) (fun _ _ _ h => h) (Or.inl ⟨by rfl, ?_⟩) (by assumption) ?_
    rotate_left
    · intro w hSw
      try dsimp only at hSw
      go_simp
      try with_reducible rfl
    try simp only [Act.put, List.setIfInBounds_toArray, List.set_cons_zero, List.set_cons_succ]
    refine wpAnyH_ready (rs := [6]) (by kernel_rfl) (by simp) ?_
    refine AllReadyH.cons (o := ⟨some 15, _, _, _, _, none⟩) rfl (fun K hK => ?_) AllReadyH.nil
    go_simp
    (go_at_call 54; refine (wSend A b x.rd x.en x.s1 x.s2 t _ HD.out.wr (by omega) ht).mono ?_; rintro e w1 ⟨rfl, hq⟩; rw [HZ.out]; obtain ⟨A', hA'⟩ := HD.out.ong (WTo.gr HD.out.lk (fun k hk => .inr hk) hq); have HK := Kp.mk hA'; clear hq hA')
    try go_wp2_with fail
    refine hK.out _ _ (⟨blk_cell (i := 0) HK.out.ry.blk rfl, blk_cell (i := 2) HK.out.box rfl⟩) (fun hHeld2 => ?_)
    clear hK K
    try simp only [Act.put, List.setIfInBounds_toArray, List.set_cons_zero, List.set_cons_succ]
    refine wpAnyH_ready (rs := [12]) (by kernel_rfl) (by simp) ?_
    refine AllReadyH.cons (o := ⟨some 21, _, _, _, _, none⟩) rfl (fun K hK => ?_) AllReadyH.nil
    go_simp
    (go_at_call 57; refine (ry_send c _ M x.S x.O x.e0 x.e1 t x.s1.size _ HK.out.ry rfl (by omega) (by show (x.s1.extract x.rd x.s1.size).size ≤ 100000; simp; omega) ht).mono ?_; rintro e w2 ⟨rfl, hr2⟩; rw [show (if (x.ld b kb).en = true then 0 else t.size) = z from HZ.out]; rw [HLD.out] at hr2; have HR := Kp.mk (HK.out.ond (y2 := ⟨if x.en then x.s1 else x.s1 ++ t, x.s2, x.rd, x.en, x.S, x.O, x.e0, x.e1⟩) hr2); clear hr2)
    try go_wp2_with fail
    refine hK.out _ _ (⟨blk_cell (i := 0) HR.out.ry.blk rfl, blk_cell (i := 2) HR.out.box rfl⟩) (fun hHeld2 => ?_)
    clear hK K
    try simp only [Act.put, List.setIfInBounds_toArray, List.set_cons_zero, List.set_cons_succ]
    refine wpAnyH_take (i := 13) (oi := ⟨some 22, .binOp .eql 3 (.tmp 15) (.tmp 21) 3, _, _, _, none⟩) (v := ?_) rfl (by kernel_rfl) (by kernel_rfl) (by kernel_rfl) (fun _ _ _ h => h) (Or.inl ⟨by rfl, ?_⟩) (by assumption) ?_
    rotate_left
    · intro w hSw
      try dsimp only at hSw
      go_simp
      try with_reducible rfl
    try simp only [Act.put, List.setIfInBounds_toArray, List.set_cons_zero, List.set_cons_succ]
    refine wpAnyH_take (i := 14) (oi := ⟨some 4, .assign (.tmp 22), _, _, _, none⟩) (v := ?_) rfl (by kernel_rfl) (by kernel_rfl) (by kernel_rfl) (fun _ _ _ h => h) (Or.inl ⟨by rfl, ?_⟩) (by assumption) ?_
    rotate_left
    · intro w hSw
      try dsimp only at hSw
      go_simp
      try with_reducible rfl
    try simp only [Act.put, List.setIfInBounds_toArray, List.set_cons_zero, List.set_cons_succ]
    refine wpAnyH_done (by kernel_rfl) ?_ _
    go_wp2_with fail
    go_ret
    refine ⟨?_, by rw [HX.out]; exact HR.out.to HFC.out⟩
    first | rfl | simp [Wst.ld]
  · have HX := Kp.mk (show x.act M 2 n t = { x with en := true } from rfl)
    go_enter Try.func31, Try.ntmps31
    go_wp2_with fail
    refine (wEnd A b x.rd x.en x.s1 x.s2 _ HST.out.wr).mono ?_
    rintro e w1 ⟨rfl, hq⟩
    have HK := Kp.mk (HST.out.onw hq)
    have k4 := blk_free (i := 4) HK.out.ry.blk
    have d4 := blk_cell (i := 4) HK.out.ry.blk rfl
    clear hq
    go_wp2_with fail
    go_ret
    refine ⟨rfl, ?_⟩
    rw [HX.out]
    exact (HK.out.ond (y2 := { x with en := true }) ⟨⟨(blk_set HK.out.ry.blk _).trans (by first | rfl | simp [Wst.ld])⟩, (Onl.refl c none _).setCell _ _⟩).to HFC.out
  · have HX := Kp.mk (show x.act M 3 n t = x.read M n from rfl)
    have HD := Kp.mk (HST.out.drewN 1)
    go_enter Try.func31, Try.ntmps31
    go_wp2_with fail
    refine wp_region_held_drew (S := fun w' => w'.cell? ⟨c, 0, none⟩ = some (.pointer (some ⟨b, 0, none⟩)) ∧ w'.cell? ⟨c, 1, none⟩ = some (.pointer (some ⟨kb, 0, none⟩)) ∧ w'.cell? ⟨w.heap.size, 1, none⟩ = some (.int .i64 n)) (by kernel_rfl) (⟨blk_cell (i := 0) HD.out.ry.blk rfl, blk_cell (i := 1) HD.out.ry.blk rfl, blk_cell (i := 1) HD.out.box rfl⟩) (fun hHeld => ?_)
    refine wpAnyH_take (i := 0) (oi := ⟨some 36, .move (.tmp 0), _, _, _, none⟩) (v := ?_) rfl (by kernel_rfl) (by kernel_rfl) (by kernel_rfl) (fun _ _ _ h => h) (Or.inl ⟨by rfl, ?_⟩) (by assumption) ?_
    rotate_left
    · intro w hSw
      try dsimp only at hSw
      go_simp
      try with_reducible rfl
    try simp only [Act.put, List.setIfInBounds_toArray, List.set_cons_zero, List.set_cons_succ]
    refine wpAnyH_take (i := 1) (oi := ⟨some 37, .nilCheck (.tmp 36), _, _, _, none⟩) (v := ?_) rfl (by kernel_rfl) (by kernel_rfl) (by kernel_rfl) (fun _ _ _ h => h) (Or.inl ⟨by rfl, ?_⟩) (by assumption) ?_
    rotate_left
    · intro w hSw
      try dsimp only at hSw
      go_simp
      try with_reducible rfl
    try simp only [Act.put, List.setIfInBounds_toArray, List.set_cons_zero, List.set_cons_succ]
    refine wpAnyH_take (i := 2) (oi := ⟨some 38, .fieldAddr 74 (.tmp 37) 0, _, _, _, none⟩) (v := ?_) rfl (by kernel_rfl) (by kernel_rfl) (by kernel_rfl) (fun _ _ _ h => h) (Or.inl ⟨by rfl, ?_⟩) (by assumption) ?_
    rotate_left
    · intro w hSw
      try dsimp only at hSw
      go_simp
      try with_reducible rfl
    try simp only [Act.put, List.setIfInBounds_toArray, List.set_cons_zero, List.set_cons_succ]
    refine wpAnyH_take (i := 3) (oi := ⟨some 39, .load 65 (.tmp 38), _, _, _, none⟩) (v := ?_) rfl (by kernel_rfl) (by kernel_rfl) (by kernel_rfl) (fun _ _ _ h => h) (Or.inl ⟨by rfl, ?_⟩) (by assumption) ?_
    rotate_left
    · intro w hSw
      try dsimp only at hSw
      go_simp
      try with_reducible rfl
    try simp only [Act.put, List.setIfInBounds_toArray, List.set_cons_zero, List.set_cons_succ]
    refine wpAnyH_take (i := 4) (oi := ⟨some 40, .move (.tmp 0), _, _, _, none⟩) (v := ?_) rfl (by kernel_rfl) (by kernel_rfl) (by kernel_rfl) (fun _ _ _ h => h) (Or.inl ⟨by rfl, ?_⟩) (by assumption) ?_
    rotate_left
    · intro w hSw
      try dsimp only at hSw
      go_simp
      try with_reducible rfl
    try simp only [Act.put, List.setIfInBounds_toArray, List.set_cons_zero, List.set_cons_succ]
    refine wpAnyH_take (i := 5) (oi := ⟨some 41, .nilCheck (.tmp 40), _, _, _, none⟩) (v := ?_) rfl (by kernel_rfl) (by kernel_rfl) (by kernel_rfl) (fun _ _ _ h => h) (Or.inl ⟨by rfl, ?_⟩) (by assumption) ?_
    rotate_left
    · intro w hSw
      try dsimp only at hSw
      go_simp
      try with_reducible rfl
    try simp only [Act.put, List.setIfInBounds_toArray, List.set_cons_zero, List.set_cons_succ]
    refine wpAnyH_take (i := 6) (oi := ⟨some 42, .fieldAddr 74 (.tmp 41) 1, _, _, _, none⟩) (v := ?_) rfl (by kernel_rfl) (by kernel_rfl) (by kernel_rfl) (fun _ _ _ h => h) (Or.inl ⟨by rfl, ?_⟩) (by assumption) ?_
    rotate_left
    · intro w hSw
      try dsimp only at hSw
      go_simp
      try with_reducible rfl
    try simp only [Act.put, List.setIfInBounds_toArray, List.set_cons_zero, List.set_cons_succ]
    refine wpAnyH_take (i := 7) (oi := ⟨some 43, .load 67 (.tmp 42), _, _, _, none⟩) (v := ?_) rfl (by kernel_rfl) (by kernel_rfl) (by kernel_rfl) (fun _ _ _ h => h) (Or.inl ⟨by rfl, ?_⟩) (by assumption) ?_
    rotate_left
    · intro w hSw
      try dsimp only at hSw
      go_simp
      try with_reducible rfl
    try simp only [Act.put, List.setIfInBounds_toArray, List.set_cons_zero, List.set_cons_succ]
    refine wpAnyH_take (i := 8) (oi := ⟨some 44, .fieldAddr 76 (.tmp 3) 1, _, _, _, none⟩) (v := ?_) rfl (by kernel_rfl) (by kernel_rfl) (by kernel_rfl) (fun _ _ _ h => h) (Or.inl ⟨by rfl, ?_⟩) (by assumption) ?_
    rotate_left
    · intro w hSw
      try dsimp only at hSw
      go_simp
      try with_reducible rfl
    try simp only [Act.put, List.setIfInBounds_toArray, List.set_cons_zero, List.set_cons_succ]
    refine wpAnyH_take (i := 9) (oi := ⟨some 45, .load 3 (.tmp 44), _, _, _, none⟩) (v := ?_) rfl (by kernel_rfl) (by kernel_rfl) (by kernel_rfl) (fun _ _ _ h => h) (Or.inl ⟨by rfl, ?_⟩) (by assumption) ?_
    rotate_left
    · intro w hSw
      try dsimp only at hSw
      go_simp
      try with_reducible rfl
    try simp only [Act.put, List.setIfInBounds_toArray, List.set_cons_zero, List.set_cons_succ]
    refine wpAnyH_take (i := 11) (oi := ⟨some 47, .move (.tmp 0), _, _, _, none⟩) (v := ?_) rfl (by kernel_rfl) (by kernel_rfl) (by kernel_rfl) (fun _ _ _ h => h) (Or.inl ⟨by rfl, ?_⟩) (by assumption) ?_
    rotate_left
    · intro w hSw
      try dsimp only at hSw
      go_simp
      try with_reducible rfl
    try simp only [Act.put, List.setIfInBounds_toArray, List.set_cons_zero, List.set_cons_succ]
    refine wpAnyH_take (i := 12) (oi := ⟨some 48, .nilCheck (.tmp 47), _, _, _, none⟩) (v := ?_) rfl (by kernel_rfl) (by kernel_rfl) (by kernel_rfl) (fun _ _ _ h => h) (Or.inl ⟨by rfl, ?_⟩) (by assumption) ?_
    rotate_left
    · intro w hSw
      try dsimp only at hSw
      go_simp
      try with_reducible rfl
    try simp only [Act.put, List.setIfInBounds_toArray, List.set_cons_zero, List.set_cons_succ]
    refine wpAnyH_take (i := 13) (oi := ⟨some 49, .fieldAddr 74 (.tmp 48) 2, _, _, _, none⟩) (v := ?_) rfl (by kernel_rfl) (by kernel_rfl) (by kernel_rfl) (fun _ _ _ h => h) (Or.inl ⟨by rfl, ?_⟩) (by assumption) ?_
    rotate_left
    · intro w hSw
      try dsimp only at hSw
      go_simp
      try with_reducible rfl
    try simp only [Act.put, List.setIfInBounds_toArray, List.set_cons_zero, List.set_cons_succ]
    refine wpAnyH_take (i := 14) (oi := ⟨some 50, .move (.tmp 0), _, _, _, none⟩) (v := ?_) rfl (by kernel_rfl) (by kernel_rfl) (by kernel_rfl) (fun _ _ _ h => h) (Or.inl ⟨by rfl, ?_⟩) (by assumption) ?_
    rotate_left
    · intro w hSw
      try dsimp only at hSw
      go_simp
      try with_reducible rfl
    try simp only [Act.put, List.setIfInBounds_toArray, List.set_cons_zero, List.set_cons_succ]
    refine wpAnyH_take (i := 15) (oi := ⟨some 51, .nilCheck (.tmp 50), _, _, _, none⟩) (v := ?_) rfl (by kernel_rfl) (by kernel_rfl) (by kernel_rfl) (fun _ _ _ h => h) (Or.inl ⟨by rfl, ?_⟩) (by assumption) ?_
    rotate_left
    · intro w hSw
      try dsimp only at hSw
      go_simp
      try with_reducible rfl
    try simp only [Act.put, List.setIfInBounds_toArray, List.set_cons_zero, List.set_cons_succ]
    refine wpAnyH_take (i := 16) (oi := ⟨some 52, .fieldAddr 74 (.tmp 51) 3, _, _, _, none⟩) (v := ?_) rfl (by kernel_rfl) (by kernel_rfl) (by kernel_rfl) (fun _ _ _ h => h) (Or.inl ⟨by rfl, ?_⟩) (by assumption) ?_
    rotate_left
    · intro w hSw
      try dsimp only at hSw
      go_simp
      try with_reducible rfl
    try simp only [Act.put, List.setIfInBounds_toArray, List.set_cons_zero, List.set_cons_succ]
    refine wpAnyH_take (i := 17) (oi := ⟨some 53, .fieldAddr 76 (.tmp 3) 1, _, _, _, none⟩) (v := ?_) rfl (by kernel_rfl) (by kernel_rfl) (by kernel_rfl) (fun _ _ _ h => h) (Or.inl ⟨by rfl, ?_⟩) (by assumption) ?_
    rotate_left
    · intro w hSw
      try dsimp only at hSw
      go_simp
      try with_reducible rfl
    try simp only [Act.put, List.setIfInBounds_toArray, List.set_cons_zero, List.set_cons_succ]
    refine wpAnyH_take (i := 18) (oi := ⟨some 54, .load 3 (.tmp 53), _, _, _, none⟩) (v := ?_) rfl (by kernel_rfl) (by kernel_rfl) (by kernel_rfl) (fun _ _ _ h => h) (Or.inl ⟨by rfl, ?_⟩) (by assumption) ?_
    rotate_left
    · intro w hSw
      try dsimp only at hSw
      go_simp
      try with_reducible rfl
    try simp only [Act.put, List.setIfInBounds_toArray, List.set_cons_zero, List.set_cons_succ]
    refine wpAnyH_ready (rs := [10]) (by kernel_rfl) (by simp) ?_
    refine AllReadyH.cons (o := ⟨some 46, _, _, _, _, none⟩) rfl (fun K hK => ?_) AllReadyH.nil
    go_simp
    (go_at_call 55; refine (wRead A (fun k => (F0 k ∨ k = w.heap.size) ∨ A k) b x.rd x.en x.s1 x.s2 kb qb qg M x.S x.O x.e0 x.e1 n _ HD.out.wr HD.out.lk (fun k hk => .inr hk) HD.out.fa hr (by omega) (x.rU n) rfl (x.rG M n) rfl).mono ?_; rintro e w1 ⟨rfl, hq⟩; have HK := Kp.mk (HD.out.onr hq); clear hq)
    try go_wp2_with fail
    refine hK.out _ _ (⟨blk_cell (i := 0) HK.out.ry.blk rfl, blk_cell (i := 1) HK.out.ry.blk rfl, blk_cell (i := 1) HK.out.box rfl⟩) (fun hHeld2 => ?_)
    clear hK K
    try simp only [Act.put, List.setIfInBounds_toArray, List.set_cons_zero, List.set_cons_succ]
    refine wpAnyH_ready (rs := [19]) (by kernel_rfl) (by simp) ?_
    refine AllReadyH.cons (o := ⟨some 55, _, _, _, _, none⟩) rfl (fun K hK => ?_) AllReadyH.nil
    go_simp
    (go_at_call 59; refine (ry_readX c b kb M x n _ HK.out.ry (by omega) HSL.out hr (by omega)).mono ?_; rintro e w2 ⟨rfl, hr2⟩; have HR := Kp.mk (HK.out.ond (y2 := x.read M n) hr2); clear hr2)
    try go_wp2_with fail
    refine hK.out _ _ (⟨blk_cell (i := 0) HR.out.ry.blk rfl, blk_cell (i := 1) HR.out.ry.blk rfl, blk_cell (i := 1) HR.out.box rfl⟩) (fun hHeld2 => ?_)
    clear hK K
    try simp only [Act.put, List.setIfInBounds_toArray, List.set_cons_zero, List.set_cons_succ]
    refine wpAnyH_take (i := 20) (oi := ⟨some 56, .binOp .eql 3 (.tmp 46) (.tmp 55) 3, _, _, _, none⟩) (v := ?_) rfl (by kernel_rfl) (by kernel_rfl) (by kernel_rfl) (fun _ _ _ h => h) (Or.inl ⟨by rfl, ?_⟩) (by assumption) ?_
    rotate_left
    · intro w hSw
      try dsimp only at hSw
      go_simp
      try with_reducible rfl
    try simp only [Act.put, List.setIfInBounds_toArray, List.set_cons_zero, List.set_cons_succ]
    refine wpAnyH_take (i := 21) (oi := ⟨some 4, .assign (.tmp 56), _, _, _, none⟩) (v := ?_) rfl (by kernel_rfl) (by kernel_rfl) (by kernel_rfl) (fun _ _ _ h => h) (Or.inl ⟨by rfl, ?_⟩) (by assumption) ?_
    rotate_left
    · intro w hSw
      try dsimp only at hSw
      go_simp
      try with_reducible rfl
    try simp only [Act.put, List.setIfInBounds_toArray, List.set_cons_zero, List.set_cons_succ]
    refine wpAnyH_done (by kernel_rfl) ?_ _
    go_wp2_with fail
    go_ret
    refine ⟨?_, by rw [HX.out]; exact HR.out.to HFC.out⟩
    first | rfl | simp
  · have HX := Kp.mk (show x.act M 4 n t = ⟨x.s1, x.s2, x.rd, x.en, x.S, wroteO x.e1 x.O t, x.e0, x.e1⟩ from rfl)
    have HD := Kp.mk (HST.out.drewN 1)
    go_enter Try.func31, Try.ntmps31
    go_wp2_with fail
    go_region_with (go_at_call 60; refine (lk_write (fun k => (F0 k ∨ k = w.heap.size) ∨ A k) kb qb qg M x.S x.O x.e0 x.e1 t _ HD.out.lk (by omega) HD.out.fa).mono ?_; rintro e w1 ⟨rfl, hq, ho⟩; have HK := Kp.mk (HD.out.onl hq ho); have HD2 := Kp.mk (HK.out.drewN 1); have d1 := blk_cell (i := 2) HK.out.box rfl; clear hq ho)
    all_goals
      go_wp2_with fail
      go_region_with (go_at_call 61; refine (ry_write c _ M x.S x.O x.e0 x.e1 t _ HD2.out.ry (by omega) (by omega)).mono ?_; rintro e w2 ⟨rfl, hr⟩; have HR := Kp.mk (HD2.out.ond (y2 := ⟨x.s1, x.s2, x.rd, x.en, x.S, wroteO x.e1 x.O t, x.e0, x.e1⟩) hr); clear hr)
      all_goals
        go_wp2_with fail
        go_ret
        exact ⟨rfl, by rw [HX.out]; exact HR.out.to HFC.out⟩
  · have HX := Kp.mk (show x.act M 5 n t = x.grant n from rfl)
    have HD := Kp.mk (HST.out.drewN 1)
    go_enter Try.func31, Try.ntmps31
    go_wp2_with fail
    refine wp_region_held_drew (S := fun w' => w'.cell? ⟨c, 0, none⟩ = some (.pointer (some ⟨b, 0, none⟩)) ∧ w'.cell? ⟨c, 1, none⟩ = some (.pointer (some ⟨kb, 0, none⟩)) ∧ w'.cell? ⟨w.heap.size, 1, none⟩ = some (.int .i64 n)) (by kernel_rfl) (⟨blk_cell (i := 0) HD.out.ry.blk rfl, blk_cell (i := 1) HD.out.ry.blk rfl, blk_cell (i := 1) HD.out.box rfl⟩) (fun hHeld => ?_)
    refine wpAnyH_take (i := 0) (oi := ⟨some 74, .move (.tmp 0), _, _, _, none⟩) (v := ?_) rfl (by kernel_rfl) (by kernel_rfl) (by kernel_rfl) (fun _ _ _ h => h) (Or.inl ⟨by rfl, ?_⟩) (by assumption) ?_
    rotate_left
    · intro w hSw
      try dsimp only at hSw
      go_simp
      try with_reducible rfl
    try simp only [Act.put, List.setIfInBounds_toArray, List.set_cons_zero, List.set_cons_succ]
    refine wpAnyH_take (i := 1) (oi := ⟨some 75, .nilCheck (.tmp 74), _, _, _, none⟩) (v := ?_) rfl (by kernel_rfl) (by kernel_rfl) (by kernel_rfl) (fun _ _ _ h => h) (Or.inl ⟨by rfl, ?_⟩) (by assumption) ?_
    rotate_left
    · intro w hSw
      try dsimp only at hSw
      go_simp
      try with_reducible rfl
    try simp only [Act.put, List.setIfInBounds_toArray, List.set_cons_zero, List.set_cons_succ]
    refine wpAnyH_take (i := 2) (oi := ⟨some 76, .fieldAddr 74 (.tmp 75) 0, _, _, _, none⟩) (v := ?_) rfl (by kernel_rfl) (by kernel_rfl) (by kernel_rfl) (fun _ _ _ h => h) (Or.inl ⟨by rfl, ?_⟩) (by assumption) ?_
    rotate_left
    · intro w hSw
      try dsimp only at hSw
      go_simp
      try with_reducible rfl
    try simp only [Act.put, List.setIfInBounds_toArray, List.set_cons_zero, List.set_cons_succ]
    refine wpAnyH_take (i := 3) (oi := ⟨some 77, .load 65 (.tmp 76), _, _, _, none⟩) (v := ?_) rfl (by kernel_rfl) (by kernel_rfl) (by kernel_rfl) (fun _ _ _ h => h) (Or.inl ⟨by rfl, ?_⟩) (by assumption) ?_
    rotate_left
    · intro w hSw
      try dsimp only at hSw
      go_simp
      try with_reducible rfl
    try simp only [Act.put, List.setIfInBounds_toArray, List.set_cons_zero, List.set_cons_succ]
    refine wpAnyH_take (i := 4) (oi := ⟨some 78, .move (.tmp 0), _, _, _, none⟩) (v := ?_) rfl (by kernel_rfl) (by kernel_rfl) (by kernel_rfl) (fun _ _ _ h => h) (Or.inl ⟨by rfl, ?_⟩) (by assumption) ?_
    rotate_left
    · intro w hSw
      try dsimp only at hSw
      go_simp
      try with_reducible rfl
    try simp only [Act.put, List.setIfInBounds_toArray, List.set_cons_zero, List.set_cons_succ]
    refine wpAnyH_take (i := 5) (oi := ⟨some 79, .nilCheck (.tmp 78), _, _, _, none⟩) (v := ?_) rfl (by kernel_rfl) (by kernel_rfl) (by kernel_rfl) (fun _ _ _ h => h) (Or.inl ⟨by rfl, ?_⟩) (by assumption) ?_
    rotate_left
    · intro w hSw
      try dsimp only at hSw
      go_simp
      try with_reducible rfl
    try simp only [Act.put, List.setIfInBounds_toArray, List.set_cons_zero, List.set_cons_succ]
    refine wpAnyH_take (i := 6) (oi := ⟨some 80, .fieldAddr 74 (.tmp 79) 1, _, _, _, none⟩) (v := ?_) rfl (by kernel_rfl) (by kernel_rfl) (by kernel_rfl) (fun _ _ _ h => h) (Or.inl ⟨by rfl, ?_⟩) (by assumption) ?_
    rotate_left
    · intro w hSw
      try dsimp only at hSw
      go_simp
      try with_reducible rfl
    try simp only [Act.put, List.setIfInBounds_toArray, List.set_cons_zero, List.set_cons_succ]
    refine wpAnyH_take (i := 7) (oi := ⟨some 81, .load 67 (.tmp 80), _, _, _, none⟩) (v := ?_) rfl (by kernel_rfl) (by kernel_rfl) (by kernel_rfl) (fun _ _ _ h => h) (Or.inl ⟨by rfl, ?_⟩) (by assumption) ?_
    rotate_left
    · intro w hSw
      try dsimp only at hSw
      go_simp
      try with_reducible rfl
    try simp only [Act.put, List.setIfInBounds_toArray, List.set_cons_zero, List.set_cons_succ]
    refine wpAnyH_take (i := 8) (oi := ⟨some 82, .fieldAddr 76 (.tmp 3) 1, _, _, _, none⟩) (v := ?_) rfl (by kernel_rfl) (by kernel_rfl) (by kernel_rfl) (fun _ _ _ h => h) (Or.inl ⟨by rfl, ?_⟩) (by assumption) ?_
    rotate_left
    · intro w hSw
      try dsimp only at hSw
      go_simp
      try with_reducible rfl
    try simp only [Act.put, List.setIfInBounds_toArray, List.set_cons_zero, List.set_cons_succ]
    refine wpAnyH_take (i := 9) (oi := ⟨some 83, .load 3 (.tmp 82), _, _, _, none⟩) (v := ?_) rfl (by kernel_rfl) (by kernel_rfl) (by kernel_rfl) (fun _ _ _ h => h) (Or.inl ⟨by rfl, ?_⟩) (by assumption) ?_
    rotate_left
    · intro w hSw
      try dsimp only at hSw
      go_simp
      try with_reducible rfl
    try simp only [Act.put, List.setIfInBounds_toArray, List.set_cons_zero, List.set_cons_succ]
    refine wpAnyH_take (i := 11) (oi := ⟨some 85, .move (.tmp 0), _, _, _, none⟩) (v := ?_) rfl (by kernel_rfl) (by kernel_rfl) (by kernel_rfl) (fun _ _ _ h => h) (Or.inl ⟨by rfl, ?_⟩) (by assumption) ?_
    rotate_left
    · intro w hSw
      try dsimp only at hSw
      go_simp
      try with_reducible rfl
    try simp only [Act.put, List.setIfInBounds_toArray, List.set_cons_zero, List.set_cons_succ]
    refine wpAnyH_take (i := 12) (oi := ⟨some 86, .nilCheck (.tmp 85), _, _, _, none⟩) (v := ?_) rfl (by kernel_rfl) (by kernel_rfl) (by kernel_rfl) (fun _ _ _ h => h) (Or.inl ⟨by rfl, ?_⟩) (by assumption) ?_
    rotate_left
    · intro w hSw
      try dsimp only at hSw
      go_simp
      try with_reducible rfl
    try simp only [Act.put, List.setIfInBounds_toArray, List.set_cons_zero, List.set_cons_succ]
    refine wpAnyH_take (i := 13) (oi := ⟨some 87, .fieldAddr 74 (.tmp 86) 2, _, _, _, none⟩) (v := ?_) rfl (by kernel_rfl) (by kernel_rfl) (by kernel_rfl) (fun _ _ _ h => h) (Or.inl ⟨by rfl, ?_⟩) (by assumption) ?_
    rotate_left
    · intro w hSw
      try dsimp only at hSw
      go_simp
      try with_reducible rfl
    try simp only [Act.put, List.setIfInBounds_toArray, List.set_cons_zero, List.set_cons_succ]
    refine wpAnyH_take (i := 14) (oi := ⟨some 88, .move (.tmp 0), _, _, _, none⟩) (v := ?_) rfl (by kernel_rfl) (by kernel_rfl) (by kernel_rfl) (fun _ _ _ h => h) (Or.inl ⟨by rfl, ?_⟩) (by assumption) ?_
    rotate_left
    · intro w hSw
      try dsimp only at hSw
      go_simp
      try with_reducible rfl
    try simp only [Act.put, List.setIfInBounds_toArray, List.set_cons_zero, List.set_cons_succ]
    refine wpAnyH_take (i := 15) (oi := ⟨some 89, .nilCheck (.tmp 88), _, _, _, none⟩) (v := ?_) rfl (by kernel_rfl) (by kernel_rfl) (by kernel_rfl) (fun _ _ _ h => h) (Or.inl ⟨by rfl, ?_⟩) (by assumption) ?_
    rotate_left
    · intro w hSw
      try dsimp only at hSw
      go_simp
      try with_reducible rfl
    try simp only [Act.put, List.setIfInBounds_toArray, List.set_cons_zero, List.set_cons_succ]
    refine wpAnyH_take (i := 16) (oi := ⟨some 90, .fieldAddr 74 (.tmp 89) 3, _, _, _, none⟩) (v := ?_) rfl (by kernel_rfl) (by kernel_rfl) (by kernel_rfl) (fun _ _ _ h => h) (Or.inl ⟨by rfl, ?_⟩) (by assumption) ?_
    rotate_left
    · intro w hSw
      try dsimp only at hSw
      go_simp
      try with_reducible rfl
    try simp only [Act.put, List.setIfInBounds_toArray, List.set_cons_zero, List.set_cons_succ]
    refine wpAnyH_take (i := 17) (oi := ⟨some 91, .fieldAddr 76 (.tmp 3) 1, _, _, _, none⟩) (v := ?_) rfl (by kernel_rfl) (by kernel_rfl) (by kernel_rfl) (fun _ _ _ h => h) (Or.inl ⟨by rfl, ?_⟩) (by assumption) ?_
    rotate_left
    · intro w hSw
      try dsimp only at hSw
      go_simp
      try with_reducible rfl
    try simp only [Act.put, List.setIfInBounds_toArray, List.set_cons_zero, List.set_cons_succ]
    refine wpAnyH_take (i := 18) (oi := ⟨some 92, .load 3 (.tmp 91), _, _, _, none⟩) (v := ?_) rfl (by kernel_rfl) (by kernel_rfl) (by kernel_rfl) (fun _ _ _ h => h) (Or.inl ⟨by rfl, ?_⟩) (by assumption) ?_
    rotate_left
    · intro w hSw
      try dsimp only at hSw
      go_simp
      try with_reducible rfl
    try simp only [Act.put, List.setIfInBounds_toArray, List.set_cons_zero, List.set_cons_succ]
    refine wpAnyH_ready (rs := [10]) (by kernel_rfl) (by simp) ?_
    refine AllReadyH.cons (o := ⟨some 84, _, _, _, _, none⟩) rfl (fun K hK => ?_) AllReadyH.nil
    go_simp
    (go_at_call 62; refine (wGrant A (fun k => (F0 k ∨ k = w.heap.size) ∨ A k) b x.rd x.en x.s1 x.s2 kb qb qg M x.S x.O x.e0 x.e1 n _ HD.out.wr HD.out.lk (fun k hk => .inr hk) HD.out.fa (by omega) (x.gU n) rfl).mono ?_; rintro e w1 ⟨rfl, hq⟩; obtain ⟨A', hA'⟩ := HD.out.ong hq; have HK := Kp.mk hA'; clear hq hA')
    try go_wp2_with fail
    refine hK.out _ _ (⟨blk_cell (i := 0) HK.out.ry.blk rfl, blk_cell (i := 1) HK.out.ry.blk rfl, blk_cell (i := 1) HK.out.box rfl⟩) (fun hHeld2 => ?_)
    clear hK K
    try simp only [Act.put, List.setIfInBounds_toArray, List.set_cons_zero, List.set_cons_succ]
    refine wpAnyH_ready (rs := [19]) (by kernel_rfl) (by simp) ?_
    refine AllReadyH.cons (o := ⟨some 93, _, _, _, _, none⟩) rfl (fun K hK => ?_) AllReadyH.nil
    go_simp
    (go_at_call 63; refine (ry_grantX c b kb M x n _ HK.out.ry (by omega) (by omega)).mono ?_; rintro e w2 ⟨rfl, hr2⟩; have HR := Kp.mk (HK.out.ond (y2 := x.grant n) hr2); clear hr2)
    try go_wp2_with fail
    refine hK.out _ _ (⟨blk_cell (i := 0) HR.out.ry.blk rfl, blk_cell (i := 1) HR.out.ry.blk rfl, blk_cell (i := 1) HR.out.box rfl⟩) (fun hHeld2 => ?_)
    clear hK K
    try simp only [Act.put, List.setIfInBounds_toArray, List.set_cons_zero, List.set_cons_succ]
    refine wpAnyH_take (i := 20) (oi := ⟨some 94, .binOp .eql 3 (.tmp 84) (.tmp 93) 3, _, _, _, none⟩) (v := ?_) rfl (by kernel_rfl) (by kernel_rfl) (by kernel_rfl) (fun _ _ _ h => h) (Or.inl ⟨by rfl, ?_⟩) (by assumption) ?_
    rotate_left
    · intro w hSw
      try dsimp only at hSw
      go_simp
      try with_reducible rfl
    try simp only [Act.put, List.setIfInBounds_toArray, List.set_cons_zero, List.set_cons_succ]
    refine wpAnyH_take (i := 21) (oi := ⟨some 4, .assign (.tmp 94), _, _, _, none⟩) (v := ?_) rfl (by kernel_rfl) (by kernel_rfl) (by kernel_rfl) (fun _ _ _ h => h) (Or.inl ⟨by rfl, ?_⟩) (by assumption) ?_
    rotate_left
    · intro w hSw
      try dsimp only at hSw
      go_simp
      try with_reducible rfl
    try simp only [Act.put, List.setIfInBounds_toArray, List.set_cons_zero, List.set_cons_succ]
    refine wpAnyH_done (by kernel_rfl) ?_ _
    go_wp2_with fail
    go_ret
    refine ⟨?_, by rw [HX.out]; exact HR.out.to HFC.out⟩
    first | rfl | simp
  · have HX := Kp.mk (show x.act M 6 n t = ⟨x.s1, x.s2, x.rd, x.en, x.S.drop n.toNat, x.O, x.e0, x.e1⟩ from rfl)
    have HD := Kp.mk (HST.out.drewN 1)
    go_enter Try.func31, Try.ntmps31
    go_wp2_with fail
    go_region_with (go_at_call 64; refine (lk_use (fun k => (F0 k ∨ k = w.heap.size) ∨ A k) kb qb qg M x.S x.O x.e0 x.e1 n _ HD.out.lk).mono ?_; rintro e w1 ⟨rfl, hq, ho⟩; have HK := Kp.mk (HD.out.onl hq ho); have HD2 := Kp.mk (HK.out.drewN 1); have d1 := blk_cell (i := 1) HK.out.box rfl; clear hq ho)
    all_goals
      go_wp2_with fail
      go_region_with (go_at_call 65; refine (ry_use c _ M x.S x.O x.e0 x.e1 n _ HD2.out.ry (by have := HSM.out; omega)).mono ?_; rintro e w2 ⟨rfl, hr⟩; have HR := Kp.mk (HD2.out.ond (y2 := ⟨x.s1, x.s2, x.rd, x.en, x.S.drop n.toNat, x.O, x.e0, x.e1⟩) hr); clear hr)
      all_goals
        go_wp2_with fail
        go_ret
        exact ⟨rfl, by rw [HX.out]; exact HR.out.to HFC.out⟩
  · have HX := Kp.mk (show x.act M 7 n t = ⟨x.s1, x.s2, x.rd, x.en, [], x.O, x.e0, true⟩ from rfl)
    go_enter Try.func31, Try.ntmps31
    go_wp2_with fail
    refine (lk_shut (fun k => (F0 k ∨ k = w.heap.size) ∨ A k) kb qb qg M x.S x.O x.e0 x.e1 _ HST.out.lk).mono ?_
    rintro e w1 ⟨rfl, hq, ho⟩
    have HK := Kp.mk (HST.out.onl hq ho)
    have k6 := blk_free (i := 6) HK.out.ry.blk
    have k10 := blk_free (i := 10) HK.out.ry.blk
    have d6 := blk_cell (i := 6) HK.out.ry.blk rfl
    have d10 := blk_cell (i := 10) HK.out.ry.blk rfl
    clear hq ho
    go_wp2_with fail
    go_ret
    refine ⟨rfl, ?_⟩
    rw [HX.out]
    exact (HK.out.ond (y2 := ⟨x.s1, x.s2, x.rd, x.en, [], x.O, x.e0, true⟩) ⟨⟨(blk_set (blk_set HK.out.ry.blk _) _).trans (by first | rfl | simp [Wst.ld, oB])⟩, ((Onl.refl c none _).setCell _ _).setCell _ _⟩).to HFC.out
  · have HX := Kp.mk (show x.act M op n t = x by unfold Wst.act; rw [if_neg o1, if_neg o2, if_neg o3, if_neg o4, if_neg o5, if_neg o6, if_neg o7])
    go_enter Try.func31, Try.ntmps31
    go_wp2_with fail
    go_ret
    exact ⟨rfl, by rw [HX.out]; exact HST.out.to HFC.out⟩
end Go.Proofs.Ytpgnekejemockaa
