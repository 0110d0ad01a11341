/- Pools (layer 40): slices.Delete of one entry. -/
import Derived.Test.YtgogoncpnfojkaaGb
import Derived.Test.YtgogoncpnfojkaaProg
import Derived.OwnWalk
import Derived.Lib.SliceRun
import Derived.Laws.IdiomCopy
import Derived.Deep.RegionHeld3
import Derived.Deep.DeepCutAuto
namespace Go.Proofs.Ytgogoncpnfojkaa
open Go.RowKit
set_option linter.unusedVariables false
set_option linter.unusedSimpArgs false

abbrev Ent := Int × Int
def enC (p : Ent) : List Value := [.int .i64 p.1, .int .i64 p.2]
def enL (L : List Ent) : List Value := L.flatMap enC
theorem enL_len (L : List Ent) : (enL L).length = L.length * 2 := flat_len (f := enC) (fun _ => rfl) L
theorem enL_app (A B : List Ent) : enL (A ++ B) = enL A ++ enL B := by unfold enL; simp
theorem enL_split (L : List Ent) (k : Nat) : enL L = enL (L.take k) ++ enL (L.drop k) := by rw [← enL_app, List.take_append_drop]
theorem enL_take {L : List Ent} {k : Nat} (h : k ≤ L.length) : enL (L.take k) = (enL L).take (k * 2) := by
  rw [enL_split L k, List.take_left' (by rw [enL_len, List.length_take, Nat.min_eq_left h])]
theorem enL_drop_at {L : List Ent} {k : Nat} (h : k ≤ L.length) (t : Nat) : (enL (L.drop k))[t]? = (enL L)[k * 2 + t]? := by
  have e : (enL (L.take k)).length = k * 2 := by rw [enL_len, List.length_take, Nat.min_eq_left h]
  rw [enL_split L k, List.getElem?_append_right (by omega), e, Nat.add_sub_cancel_left]
theorem grown_set {w w' : World} {g o : Nat} (u : Value) (h : w.grownBy w' (some g)) : w.grownBy (w'.setCell ⟨g, o, none⟩ u) (some g) :=
  ⟨h.os, h.tape, h.output, by have := h.size; simp [World.setCell]; exact this, fun k hk hn => (Below.heap_setCell _ _ _ _ (fun e => hn (by rw [e]))).trans (h.block k hk hn)⟩
theorem grown_undrew {w w' : World} {r : Option Nat} (h : w.drew.grownBy w' r) : w.grownBy w' r := ⟨h.os, h.tape, h.output, h.size, h.block⟩
theorem enL_one (L : List Ent) : ∀ u ∈ enL L, u.oneCell' = true := by
  intro u hu
  unfold enL at hu
  obtain ⟨p, -, hp⟩ := List.mem_flatMap.1 hu
  unfold enC at hp
  simp at hp
  rcases hp with rfl | rfl <;> rfl
theorem Try.infoEn : (Try.prog.info? 124).map (fun i => (i.zero, i.size, i.bytes)) = some (some (.agg #[.int .i64 0, .int .i64 0]), 2, 16) := by kernel_rfl
/-- A row's beginning is a row. -/
theorem own_front {w : World} {B : Nat} {e : TypeId} {sz n k g cap : Nat} {xs ys : List Value} (h : w.ownsRow B e sz (.slice (some ⟨g, 0, none⟩) n cap) n xs) (hk : k ≤ n) (hy : ys = xs.take (k * sz)) : w.ownsRow B e sz (.slice (some ⟨g, 0, none⟩) k cap) k ys := by
  have hle : k * sz ≤ n * sz := Nat.mul_le_mul_right _ hk
  rcases h.2 with ⟨h0, _⟩ | ⟨g', cap', cur, hv, h1, h2, h3, h4, h5, h6⟩
  · cases h0
  · cases hv
    refine ⟨by rw [hy, List.length_take, h.1]; omega, .inr ⟨g, cap, cur, rfl, h1, h2, by omega, h4, h5, ?_⟩⟩
    rw [hy, ← h6, List.take_take, Nat.min_eq_left hle]
/-- What is written behind a row leaves it. -/
theorem own_behind {w : World} {B : Nat} {e : TypeId} {sz n g cap o : Nat} {xs : List Value} (u : Value) (h : w.ownsRow B e sz (.slice (some ⟨g, 0, none⟩) n cap) n xs) (ho : n * sz ≤ o) : (w.setCell ⟨g, o, none⟩ u).ownsRow B e sz (.slice (some ⟨g, 0, none⟩) n cap) n xs := by
  rcases h.2 with ⟨h0, _⟩ | ⟨g', cap', cur, hv, h1, h2, h3, h4, h5, h6⟩
  · cases h0
  · cases hv
    refine ⟨h.1, .inr ⟨g, cap, cur.setIfInBounds o u, rfl, h1, blk_set h2 u, h3, h4, by rw [Array.size_setIfInBounds]; exact h5, ?_⟩⟩
    rw [← h6, Array.toList_setIfInBounds, List.take_set_of_le ho]
theorem own_facts {w : World} {B : Nat} {e : TypeId} {sz n g cap : Nat} {xs : List Value} (h : w.ownsRow B e sz (.slice (some ⟨g, 0, none⟩) n cap) n xs) : n ≤ cap ∧ cap ≤ maxLen ∧ B ≤ g ∧ ∃ cur, w.heap[g]? = some (.cells cur e (0, 0)) ∧ cur.size = cap * sz := by
  rcases h.2 with ⟨h0, _⟩ | ⟨g', cap', cur, hv, h1, h2, h3, h4, h5, h6⟩
  · cases h0
  · cases hv
    exact ⟨h3, h4, h1, cur, h2, h5⟩
theorem own_cells {w : World} {B : Nat} {e : TypeId} {sz n g cap : Nat} {xs : List Value} (h : w.ownsRow B e sz (.slice (some ⟨g, 0, none⟩) n cap) n xs) {j : Nat} {u : Value} (hj : xs[j]? = some u) : w.cell? ⟨g, j, none⟩ = some u := by
  rcases h.2 with ⟨h0, _⟩ | ⟨g', cap', cur, hv, h1, h2, h3, h4, h5, h6⟩
  · cases h0
  · cases hv
    refine blk_cell h2 ?_
    rw [← h6] at hj
    rw [List.getElem?_take] at hj
    split at hj
    · rwa [Array.getElem?_toList] at hj
    · cases hj
/-- clear of one element of two cells. -/
theorem run_clear_two (w : World) (t e ty : TypeId) (z : Value) (a b : Value) (ht : Try.prog.underlying t = some (.slice e)) (hv : ∀ w, (zeroValue e).run Try.prog w = .ok z w) (hz : z.cells = #[a, b]) (ha : a.oneCell' = true) (hb : b.oneCell' = true) (g o c : Nat)
    (hc : ∀ j, j < 2 → (w.cell? ⟨g, o + j, none⟩).isSome = true) (hf : ∀ j, j < 2 → w.frozen? ⟨g, o + j, none⟩ = false) :
    (Builtin.clear_ #[t] ty #[.slice (some ⟨g, o, none⟩) 1 c]).run Try.prog w = .ok (.tuple #[]) ((w.setCell ⟨g, o, none⟩ a).setCell ⟨g, o + 1, none⟩ b) := by
  have hzc : (Builtin.zeroCells z.cells 1).toList = [a, b] := by
    rw [hz]
    first | rfl | (simp [Builtin.zeroCells]; done) | (simp [Builtin.zeroCells, List.ofFn_succ]; done) | (simp [Builtin.zeroCells, Array.ofFn, List.ofFn]; done) | (apply List.ext_getElem <;> simp [Builtin.zeroCells]; intro i h1; rcases i with _ | _ | i <;> simp <;> omega)
  have hst := run_storeCells_cells (P := Try.prog) g o [a, b] 0 w (by simpa using hc) (by simpa using hf) (by intro v hv'; simp at hv'; rcases hv' with rfl | rfl <;> assumption)
  simp only [Nat.add_zero] at hst
  simp [Builtin.clear_, run_underlying ht, hv, hzc, hst, World.setCells]
/-- An append that fits, at one operation. -/
theorem op_app_fits {P : Program} {ops : Array Oper} {w : World} {o : Oper} {a : Act} {K : Act → World → Prop} {Q : Exit → Act → World → Prop} (hgd : o.guard = none) (s x : Operand) (t : TypeId) (hop : o.op = Op.call { callee := Callee.builtin Builtin.append, args := #[s, x], argTypes := #[t, t] })
    (base : Nat) (e : TypeId) (size : Nat) (h1 : P.underlying t = some (.slice e)) (z : Value) (by_ : Nat) (hi : (P.info? e).map (fun i => (i.zero, i.size, i.bytes)) = some (some z, size, by_))
    (g k cap : Nat) (xs : List Value) (hs : a.eval s = .slice (some ⟨g, 0, none⟩) k cap) (hown : w.ownsRow base e size (.slice (some ⟨g, 0, none⟩) k cap) k xs) (ad : Addr) (m c : Nat) (news : List Value) (hx : a.eval x = .slice (some ad) m c) (hn : news.length = m * size)
    (hc : ∀ j u, news[j]? = some u → w.cell? (ad.add j) = some u) (h1c : ∀ u ∈ news, u.oneCell' = true) (b1 : k + m ≤ cap)
    (hK : ∀ w', w'.ownsRow base e size (.slice (some ⟨g, 0, none⟩) (k + m) cap) (k + m) (xs ++ news) → w.grownBy w' (some g) → K (a.put o.dst (.slice (some ⟨g, 0, none⟩) (k + m) cap)) w') :
    if Region.wanted o (yielded ops a.tmps) = true then Oper.wp P o a w K Q else K (a.put o.dst undef) w := by
  rw [if_pos (by simp only [Region.wanted, hgd])]
  obtain ⟨i0, hi, hz0, hz1, hz2⟩ := info_parts hi
  obtain ⟨w', hrun, r1, r2⟩ := run_append_fits (P := P) w base t o.type e i0 size h1 hi hz1 g k cap xs hown ad m c news hn hc h1c b1
  unfold Oper.wp execOp
  simp only [hop, resolve, invoke, builtin, Sem.run_bind, Sem.run_pure, Result.andThen_ok, List.map_toArray, List.map_cons, List.map_nil, hs, hx, hrun]
  exact hK w' r1 r2
set_option maxRecDepth 100000 in
set_option maxHeartbeats 4000000 in
theorem pdel_any (g cap i j B : Nat) (L : List Ent) (w : World) (h : w.ownsRow B 124 2 (.slice (some ⟨g, 0, none⟩) L.length cap) L.length (enL L)) (hj : j = i + 1) (hi : i < L.length) (hl : L.length ≤ 100000) :
    Calls Try.prog 112 #[.slice (some ⟨g, 0, none⟩) L.length cap, .int .i64 i, .int .i64 j] w fun e w' => e = .returned (.slice (some ⟨g, 0, none⟩) (L.length - 1) cap) ∧ w'.ownsRow B 124 2 (.slice (some ⟨g, 0, none⟩) (L.length - 1) cap) (L.length - 1) (enL (L.take i ++ L.drop j)) ∧ w.grownBy w' (some g) := by
  have H := Kp.mk h
  obtain ⟨hcap, hcm, -, -⟩ := own_facts h
  unfold maxLen at hcm
  have HP := Kp.mk (own_front (k := i) (ys := enL (L.take i)) h.drew (by omega) (by rw [enL_take (by omega)]))
  have hij : i ≤ j := by omega
  have hlt : i < j := by omega
  have hjl : j ≤ L.length := by omega
  have hic : i ≤ cap := by omega
  have hjc : j ≤ cap := by omega
  have HJ := Kp.mk hj
  have hne : (i == j) = false := by rw [beq_eq_false_iff_ne]; omega
  have hne2 : ¬ i = j := by omega
  clear h hj
  generalize hn : L.length = n at *
  have HN := Kp.mk (show (enL (L.drop j)).length = (n - j) * 2 by rw [enL_len, List.length_drop, hn])
  have hb1 : i + (n - j) ≤ cap := by omega
  have e1 : n - (i + (n - j)) = 1 := by have := HJ.out; omega
  have hin : i + (n - j) ≤ n := by omega
  have HX := Kp.mk (fun t => enL_drop_at (L := L) (k := j) (by omega) t)
  by_cases hcj : cap = j
  · have hcj2 : j = cap := hcj.symm; subst hcj2; clear hcj; have e0 : n - j = 0 := (by omega); rw [e0] at HN e1 hb1 hin; rw [Nat.add_zero] at e1 hb1 hin
    have HC := Kp.mk (show ∀ t u, (enL (L.drop j))[t]? = some u → w.drew.cell? ((⟨g, 0, none⟩ : Addr).add t) = some u from fun t u hu => by rw [List.drop_eq_nil_of_le (by omega)] at hu; simp [enL] at hu)
    clear hn
    go_enter Try.func112, Try.ntmps112
    go_upto_region 5 with fail
    refine wp_region_held_drew (S := fun _ => True) (by kernel_rfl) (trivial) (fun hHeld => ?_)
    refine wpAnyH_take (i := 0) (oi := ⟨some 20, .move (.tmp 0), _, _, _, none⟩) (v := ?_) rfl (by kernel_rfl) (by kernel_rfl) (by kernel_rfl) (fun _ _ _ h => h) (Or.inl ⟨by rfl, ?_⟩) (by assumption) ?_
    rotate_left
    · intro w hSw
      try dsimp only at hSw
      go_simp
      try with_reducible rfl
    try simp only [Act.put, List.setIfInBounds_toArray, List.set_cons_zero, List.set_cons_succ]
    refine wpAnyH_take (i := 1) (oi := ⟨some 21, .move (.tmp 1), _, _, _, none⟩) (v := ?_) rfl (by kernel_rfl) (by kernel_rfl) (by kernel_rfl) (fun _ _ _ h => h) (Or.inl ⟨by rfl, ?_⟩) (by assumption) ?_
    rotate_left
    · intro w hSw
      try dsimp only at hSw
      go_simp
      try with_reducible rfl
    try simp only [Act.put, List.setIfInBounds_toArray, List.set_cons_zero, List.set_cons_succ]
    refine wpAnyH_take (i := 2) (oi := ⟨some 22, .slice 24 (.tmp 20) none (some (.tmp 21)) none, _, _, _, none⟩) (v := ?_) rfl (by kernel_rfl) (by kernel_rfl) (by kernel_rfl) (fun _ _ _ h => h) (Or.inl ⟨by rfl, ?_⟩) (by assumption) ?_
    rotate_left
    · intro w hSw
      try dsimp only at hSw
      go_simp
      try with_reducible rfl
    try simp only [Act.put, List.setIfInBounds_toArray, List.set_cons_zero, List.set_cons_succ]
    refine wpAnyH_take (i := 3) (oi := ⟨some 23, .move (.tmp 0), _, _, _, none⟩) (v := ?_) rfl (by kernel_rfl) (by kernel_rfl) (by kernel_rfl) (fun _ _ _ h => h) (Or.inl ⟨by rfl, ?_⟩) (by assumption) ?_
    rotate_left
    · intro w hSw
      try dsimp only at hSw
      go_simp
      try with_reducible rfl
    try simp only [Act.put, List.setIfInBounds_toArray, List.set_cons_zero, List.set_cons_succ]
    refine wpAnyH_take (i := 4) (oi := ⟨some 24, .move (.tmp 2), _, _, _, none⟩) (v := ?_) rfl (by kernel_rfl) (by kernel_rfl) (by kernel_rfl) (fun _ _ _ h => h) (Or.inl ⟨by rfl, ?_⟩) (by assumption) ?_
    rotate_left
    · intro w hSw
      try dsimp only at hSw
      go_simp
      try with_reducible rfl
    try simp only [Act.put, List.setIfInBounds_toArray, List.set_cons_zero, List.set_cons_succ]
    refine wpAnyH_take (i := 5) (oi := ⟨some 25, .slice 24 (.tmp 23) (some (.tmp 24)) none none, _, _, _, none⟩) (v := ?_) rfl (by kernel_rfl) (by kernel_rfl) (by kernel_rfl) (fun _ _ _ h => h) (Or.inl ⟨by rfl, ?_⟩) (by assumption) ?_
    rotate_left
    · intro w hSw
      try dsimp only at hSw
      go_simp
      try with_reducible rfl
    try simp only [Act.put, List.setIfInBounds_toArray, List.set_cons_zero, List.set_cons_succ]
    refine wpAnyH_ready (rs := [6]) (by kernel_rfl) (by simp) ?_
    refine AllReadyH.cons (o := ⟨some 26, _, _, _, _, none⟩) rfl (fun K hK => ?_) AllReadyH.nil
    apply op_app_fits (e := 124) (size := 2) (k := i) (cap := j) (g := g) (s := .tmp 22) (x := .tmp 25) (t := 24) (hown := HP.out) (m := 0) (ad := ⟨g, 0, none⟩) (news := enL (L.drop j)) (hi := Try.infoEn) (h1 := Try.underlying24) (hc := HC.out) (h1c := enL_one _) (hn := HN.out) (b1 := hb1)
    all_goals (try (first | rfl | decide))
    intro w1 h1 h2
    simp only [Nat.add_zero] at h1 ⊢
    have HO := Kp.mk h1
    have HG := Kp.mk h2
    clear h1 h2
    refine hK.out _ _ (trivial) (fun hHeld2 => ?_)
    clear hK K
    try simp only [Act.put, List.setIfInBounds_toArray, List.set_cons_zero, List.set_cons_succ]
    refine wpAnyH_take (i := 7) (oi := ⟨some 0, .assign (.tmp 26), _, _, _, none⟩) (v := ?_) rfl (by kernel_rfl) (by kernel_rfl) (by kernel_rfl) (fun _ _ _ h => h) (Or.inl ⟨by rfl, ?_⟩) (by assumption) ?_
    rotate_left
    · intro w hSw
      try dsimp only at hSw
      go_simp
      try with_reducible rfl
    try simp only [Act.put, List.setIfInBounds_toArray, List.set_cons_zero, List.set_cons_succ]
    refine wpAnyH_done (by kernel_rfl) ?_ _
    have HF := Kp.mk (own_facts HO.out)
    have HCL := Kp.mk (fun ty => run_clear_two w1 24 124 ty (.agg #[.int .i64 0, .int .i64 0]) (.int .i64 0) (.int .i64 0) Try.underlying24 Try.zeroValue124 rfl rfl rfl g ((i) * 2) (j - (i))
      (fun q hq => by obtain ⟨h3, h4, h1, cur, h2, h5⟩ := HF.out; simp [World.cell?, h2, h5]; omega) (fun q hq => by obtain ⟨h3, h4, h1, cur, h2, h5⟩ := HF.out; exact blk_free h2))
    go_wp2_with fail
    first | rw [HCL.out] | rw [e1, HCL.out]
    simp only [Result.andThen]
    rw [Oper.upon_value]
    go_wp2_with fail
    go_ret
    have e2 : i = n - 1 := by have := HJ.out; omega
    refine ⟨by rw [e2]; rfl, ?_, grown_set _ (grown_set _ (grown_undrew HG.out))⟩
    rw [enL_app, ← e2]
    exact own_behind _ (own_behind _ HO.out (Nat.le_refl _)) (by omega)
  · skip
    have HC := Kp.mk (show ∀ t u, (enL (L.drop j))[t]? = some u → w.drew.cell? ((⟨g, j * 2, none⟩ : Addr).add t) = some u from fun t u hu => by rw [HX.out] at hu; rw [Addr.add_lit]; exact own_cells H.out hu)
    clear hn
    go_enter Try.func112, Try.ntmps112
    go_upto_region 5 with fail
    refine wp_region_held_drew (S := fun _ => True) (by kernel_rfl) (trivial) (fun hHeld => ?_)
    refine wpAnyH_take (i := 0) (oi := ⟨some 20, .move (.tmp 0), _, _, _, none⟩) (v := ?_) rfl (by kernel_rfl) (by kernel_rfl) (by kernel_rfl) (fun _ _ _ h => h) (Or.inl ⟨by rfl, ?_⟩) (by assumption) ?_
    rotate_left
    · intro w hSw
      try dsimp only at hSw
      go_simp
      try with_reducible rfl
    try simp only [Act.put, List.setIfInBounds_toArray, List.set_cons_zero, List.set_cons_succ]
    refine wpAnyH_take (i := 1) (oi := ⟨some 21, .move (.tmp 1), _, _, _, none⟩) (v := ?_) rfl (by kernel_rfl) (by kernel_rfl) (by kernel_rfl) (fun _ _ _ h => h) (Or.inl ⟨by rfl, ?_⟩) (by assumption) ?_
    rotate_left
    · intro w hSw
      try dsimp only at hSw
      go_simp
      try with_reducible rfl
    try simp only [Act.put, List.setIfInBounds_toArray, List.set_cons_zero, List.set_cons_succ]
    refine wpAnyH_take (i := 2) (oi := ⟨some 22, .slice 24 (.tmp 20) none (some (.tmp 21)) none, _, _, _, none⟩) (v := ?_) rfl (by kernel_rfl) (by kernel_rfl) (by kernel_rfl) (fun _ _ _ h => h) (Or.inl ⟨by rfl, ?_⟩) (by assumption) ?_
    rotate_left
    · intro w hSw
      try dsimp only at hSw
      go_simp
      try with_reducible rfl
    try simp only [Act.put, List.setIfInBounds_toArray, List.set_cons_zero, List.set_cons_succ]
    refine wpAnyH_take (i := 3) (oi := ⟨some 23, .move (.tmp 0), _, _, _, none⟩) (v := ?_) rfl (by kernel_rfl) (by kernel_rfl) (by kernel_rfl) (fun _ _ _ h => h) (Or.inl ⟨by rfl, ?_⟩) (by assumption) ?_
    rotate_left
    · intro w hSw
      try dsimp only at hSw
      go_simp
      try with_reducible rfl
    try simp only [Act.put, List.setIfInBounds_toArray, List.set_cons_zero, List.set_cons_succ]
    refine wpAnyH_take (i := 4) (oi := ⟨some 24, .move (.tmp 2), _, _, _, none⟩) (v := ?_) rfl (by kernel_rfl) (by kernel_rfl) (by kernel_rfl) (fun _ _ _ h => h) (Or.inl ⟨by rfl, ?_⟩) (by assumption) ?_
    rotate_left
    · intro w hSw
      try dsimp only at hSw
      go_simp
      try with_reducible rfl
    try simp only [Act.put, List.setIfInBounds_toArray, List.set_cons_zero, List.set_cons_succ]
    refine wpAnyH_take (i := 5) (oi := ⟨some 25, .slice 24 (.tmp 23) (some (.tmp 24)) none none, _, _, _, none⟩) (v := ?_) rfl (by kernel_rfl) (by kernel_rfl) (by kernel_rfl) (fun _ _ _ h => h) (Or.inl ⟨by rfl, ?_⟩) (by assumption) ?_
    rotate_left
    · intro w hSw
      try dsimp only at hSw
      go_simp
      try with_reducible rfl
    try simp only [Act.put, List.setIfInBounds_toArray, List.set_cons_zero, List.set_cons_succ]
    refine wpAnyH_ready (rs := [6]) (by kernel_rfl) (by simp) ?_
    refine AllReadyH.cons (o := ⟨some 26, _, _, _, _, none⟩) rfl (fun K hK => ?_) AllReadyH.nil
    apply op_app_fits (e := 124) (size := 2) (k := i) (cap := cap) (g := g) (s := .tmp 22) (x := .tmp 25) (t := 24) (hown := HP.out) (m := n - j) (ad := ⟨g, j * 2, none⟩) (news := enL (L.drop j)) (hi := Try.infoEn) (h1 := Try.underlying24) (hc := HC.out) (h1c := enL_one _) (hn := HN.out) (b1 := hb1)
    all_goals (try (first | rfl | decide))
    intro w1 h1 h2
    have HO := Kp.mk h1
    have HG := Kp.mk h2
    clear h1 h2
    refine hK.out _ _ (trivial) (fun hHeld2 => ?_)
    clear hK K
    try simp only [Act.put, List.setIfInBounds_toArray, List.set_cons_zero, List.set_cons_succ]
    refine wpAnyH_take (i := 7) (oi := ⟨some 0, .assign (.tmp 26), _, _, _, none⟩) (v := ?_) rfl (by kernel_rfl) (by kernel_rfl) (by kernel_rfl) (fun _ _ _ h => h) (Or.inl ⟨by rfl, ?_⟩) (by assumption) ?_
    rotate_left
    · intro w hSw
      try dsimp only at hSw
      go_simp
      try with_reducible rfl
    try simp only [Act.put, List.setIfInBounds_toArray, List.set_cons_zero, List.set_cons_succ]
    refine wpAnyH_done (by kernel_rfl) ?_ _
    have HF := Kp.mk (own_facts HO.out)
    have HCL := Kp.mk (fun ty => run_clear_two w1 24 124 ty (.agg #[.int .i64 0, .int .i64 0]) (.int .i64 0) (.int .i64 0) Try.underlying24 Try.zeroValue124 rfl rfl rfl g ((i + (n - j)) * 2) (cap - (i + (n - j)))
      (fun q hq => by obtain ⟨h3, h4, h1, cur, h2, h5⟩ := HF.out; simp [World.cell?, h2, h5]; omega) (fun q hq => by obtain ⟨h3, h4, h1, cur, h2, h5⟩ := HF.out; exact blk_free h2))
    go_wp2_with fail
    first | rw [HCL.out] | rw [e1, HCL.out]
    simp only [Result.andThen]
    rw [Oper.upon_value]
    go_wp2_with fail
    go_ret
    have e2 : i + (n - j) = n - 1 := by have := HJ.out; omega
    refine ⟨by rw [e2]; rfl, ?_, grown_set _ (grown_set _ (grown_undrew HG.out))⟩
    rw [enL_app, ← e2]
    exact own_behind _ (own_behind _ HO.out (Nat.le_refl _)) (by omega)
end Go.Proofs.Ytgogoncpnfojkaa
