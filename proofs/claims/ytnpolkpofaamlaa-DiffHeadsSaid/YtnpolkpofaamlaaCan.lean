/- How heads differ (layer 51): diff.Heads (bin/mkcan.py). -/
import Derived.Test.YtnpolkpofaamlaaCal
import Derived.Test.YtnpolkpofaamlaaCak
import Derived.Test.YtnpolkpofaamlaaDic
namespace Go.Proofs.Ytnpolkpofaamlaa
open Go.RowKit
set_option linter.unusedVariables false
set_option linter.unusedSimpArgs false

def sgT (s : Int) : ByteArray := if s = 0 then ⟨#[32, 32]⟩ else if s = 1 then ⟨#[45, 32]⟩ else ⟨#[43, 32]⟩
def hdT (r : Dr) : ByteArray := sgT r.1 ++ r.2
def hdL (A B : List ByteArray) : List ByteArray := (dfL A B).map hdT
theorem dr_in {A B : List ByteArray} {r : Dr} (h : r ∈ dfL A B) : (r.1 = 0 ∨ r.1 = 1 ∨ r.1 = 2) ∧ (r.2 ∈ A ∨ r.2 ∈ B) := by
  obtain ⟨h1, h2, h3⟩ := dfL_ok A B
  unfold okL at h1
  have h4 := List.all_eq_true.1 h1 r h
  have h5 : r.1 = 0 ∨ r.1 = 1 ∨ r.1 = 2 := by simpa [or_assoc] using h4
  refine ⟨h5, ?_⟩
  by_cases e : r.1 = 2
  · right
    rw [← h3]
    exact List.mem_map.2 ⟨r, List.mem_filter.2 ⟨h, by rw [e]; rfl⟩, rfl⟩
  · left
    rw [← h2]
    exact List.mem_map.2 ⟨r, List.mem_filter.2 ⟨h, by simpa using e⟩, rfl⟩
/-- What stands at each turn. -/
structure HH (w : World) (A B : List ByteArray) (k : Nat) (ov dv : Value) (n : Nat) (wr : World) : Prop where
  o : wr.ownsRow (w.heap.size + 3) 9 1 ov (((dfL A B).take k).map hdT).length (svH (((dfL A B).take k).map hdT))
  d : wr.ownsRow (w.heap.size + 3) 99 2 dv n (drL (dfL A B))
  s : wr.heap[w.heap.size + 2]? = some (.cells #[.string ⟨#[32, 32]⟩, .string ⟨#[45, 32]⟩, .string ⟨#[43, 32]⟩] 136 (0, 0))
  b : Below w.heap.size w wr
set_option maxRecDepth 100000 in
set_option maxHeartbeats 2000000 in
theorem dheads_any (m1 t1 : ByteArray) (i1 s1 : Int) (r1 : ByteArray) (u1 : Value) (m2 t2 : ByteArray) (i2 s2 : Int) (r2 : ByteArray) (u2 : Value) (A B : List ByteArray) (w : World)
    (hA : ∀ W, Below w.heap.size w W → Calls Try.prog 95 #[.agg #[.string m1, .string t1, .int .i64 i1, .int .i64 s1, .string r1, u1]] W (RetS A W)) (hB : ∀ W, Below w.heap.size w W → Calls Try.prog 95 #[.agg #[.string m2, .string t2, .int .i64 i2, .int .i64 s2, .string r2, u2]] W (RetS B W))
    (hlA : A.length ≤ 100) (hlB : B.length ≤ 100) (hsA : ∀ s ∈ A, s.size ≤ 10000000) (hsB : ∀ s ∈ B, s.size ≤ 10000000) :
    Calls Try.prog 61 #[.agg #[.string m1, .string t1, .int .i64 i1, .int .i64 s1, .string r1, u1], .agg #[.string m2, .string t2, .int .i64 i2, .int .i64 s2, .string r2, u2]] w (RetS (hdL A B) w) := by
  have HLA := Kp.mk hA
  have HLB := Kp.mk hB
  have HSZ := Kp.mk (fun r (h : r ∈ dfL A B) => And.intro (dr_in h).1 (show r.2.size ≤ 10000000 from (dr_in h).2.elim (hsA _) (hsB _)))
  have HDL := Kp.mk (show (dfL A B).length ≤ 200 by have := dfL_len A B; omega)
  clear hA hB hsA hsB
  have q1 := heap_alloc_new w (.cells #[.string m1, .string t1, .int .i64 i1, .int .i64 s1, .string r1, u1] 50)
  have e1 : (w.alloc (.cells #[.string m1, .string t1, .int .i64 i1, .int .i64 s1, .string r1, u1] 50)).heap.size = w.heap.size + 1 := World.size_alloc _ _
  have q2 := heap_alloc_new (w.alloc (.cells #[.string m1, .string t1, .int .i64 i1, .int .i64 s1, .string r1, u1] 50)) (.cells #[.string m2, .string t2, .int .i64 i2, .int .i64 s2, .string r2, u2] 50)
  have e2 : ((w.alloc (.cells #[.string m1, .string t1, .int .i64 i1, .int .i64 s1, .string r1, u1] 50)).alloc (.cells #[.string m2, .string t2, .int .i64 i2, .int .i64 s2, .string r2, u2] 50)).heap.size = w.heap.size + 2 := by rw [World.size_alloc, e1]
  have q3 := heap_alloc_new ((w.alloc (.cells #[.string m1, .string t1, .int .i64 i1, .int .i64 s1, .string r1, u1] 50)).alloc (.cells #[.string m2, .string t2, .int .i64 i2, .int .i64 s2, .string r2, u2] 50)) (.cells #[.string ⟨#[32, 32]⟩, .string ⟨#[45, 32]⟩, .string ⟨#[43, 32]⟩] 136)
  have e3 : (((w.alloc (.cells #[.string m1, .string t1, .int .i64 i1, .int .i64 s1, .string r1, u1] 50)).alloc (.cells #[.string m2, .string t2, .int .i64 i2, .int .i64 s2, .string r2, u2] 50)).alloc (.cells #[.string ⟨#[32, 32]⟩, .string ⟨#[45, 32]⟩, .string ⟨#[43, 32]⟩] 136)).heap.size = w.heap.size + 3 := by rw [World.size_alloc, e2]
  rw [e1] at q2
  rw [e2] at q3
  have g1 := blk_alloc (o2 := .cells #[.string ⟨#[32, 32]⟩, .string ⟨#[45, 32]⟩, .string ⟨#[43, 32]⟩] 136) (blk_alloc (o2 := .cells #[.string m2, .string t2, .int .i64 i2, .int .i64 s2, .string r2, u2] 50) q1)
  have g2 := blk_alloc (o2 := .cells #[.string ⟨#[32, 32]⟩, .string ⟨#[45, 32]⟩, .string ⟨#[43, 32]⟩] 136) q2
  have HW0 := Kp.mk ((((Below.refl w.heap.size w).alloc (Nat.le_refl _) (.cells #[.string m1, .string t1, .int .i64 i1, .int .i64 s1, .string r1, u1] 50)).alloc (by rw [e1]; omega) (.cells #[.string m2, .string t2, .int .i64 i2, .int .i64 s2, .string r2, u2] 50)).alloc (by rw [e2]; omega) (.cells #[.string ⟨#[32, 32]⟩, .string ⟨#[45, 32]⟩, .string ⟨#[43, 32]⟩] 136))
  have a0 := blk_cell (i := 0) g1 rfl
  have a1 := blk_cell (i := 1) g1 rfl
  have a2 := blk_cell (i := 2) g1 rfl
  have a3 := blk_cell (i := 3) g1 rfl
  have a4 := blk_cell (i := 4) g1 rfl
  have a5 := blk_cell (i := 5) g1 rfl
  have b0 := blk_cell (i := 0) g2 rfl
  have b1 := blk_cell (i := 1) g2 rfl
  have b2 := blk_cell (i := 2) g2 rfl
  have b3 := blk_cell (i := 3) g2 rfl
  have b4 := blk_cell (i := 4) g2 rfl
  have b5 := blk_cell (i := 5) g2 rfl
  have ha : w.heap.size < w.heap.size + 3 := by omega
  have hb2 : w.heap.size + 1 < w.heap.size + 3 := by omega
  clear q1 q2 e1 e2 g1 g2
  go_enter Try.func61, Try.ntmps61
  go_upto_region 3 with fail
  generalize hW0 : ((w.alloc (.cells #[.string m1, .string t1, .int .i64 i1, .int .i64 s1, .string r1, u1] 50)).alloc (.cells #[.string m2, .string t2, .int .i64 i2, .int .i64 s2, .string r2, u2] 50)).alloc (.cells #[.string ⟨#[32, 32]⟩, .string ⟨#[45, 32]⟩, .string ⟨#[43, 32]⟩] 136) = W0 at *
  have hsz : w.heap.size + 3 ≤ W0.heap.size := by omega
  have HZ := Kp.mk (fun (dv : Value) (n : Nat) (wx : World) (ho : wx.ownsRow (w.heap.size + 3) 99 2 dv n (drL (dfL A B))) (hb : Below W0.heap.size W0 wx) => (HH.mk (World.ownsRow_nil _ _ _ _) ho ((hb.block _ (by omega)).trans q3) (HW0.out.trans (hb.mono HW0.out.size)) : HH w A B 0 (.slice none 0 0) dv n wx))
  go_cut [14, 15, 16] (fun dv nv iv wx => ∃ a c, dv = .slice a (dfL A B).length c ∧ nv = .int .i64 ((dfL A B).length : Nat) ∧ iv = .int .i64 0 ∧ HH w A B 0 (.slice none 0 0) dv (dfL A B).length wx)
  case first =>
    refine wp_region_held_drew (S := fun w' => Below (w.heap.size + 3) W0 w') (by kernel_rfl) (show Below (w.heap.size + 3) W0 W0.drew from ⟨rfl, rfl, rfl, Nat.le_refl _, fun _ _ => rfl⟩) (fun hHeld => ?_)
    refine wpAnyH_take (i := 0) (oi := ⟨some 10, .load 50 (.tmp 2), _, _, _, none⟩) (v := ?_) rfl (by kernel_rfl) (by kernel_rfl) (by kernel_rfl) (fun _ _ _ h => h) (Or.inl ⟨by rfl, ?_⟩) (by assumption) ?_
    rotate_left
    · intro wk hSw
      try dsimp only at hSw
      have c0 := (hSw.cell (p := ⟨w.heap.size, 0, none⟩) ha).trans a0
      have c1 := (hSw.cell (p := ⟨w.heap.size, 1, none⟩) ha).trans a1
      have c2 := (hSw.cell (p := ⟨w.heap.size, 2, none⟩) ha).trans a2
      have c3 := (hSw.cell (p := ⟨w.heap.size, 3, none⟩) ha).trans a3
      have c4 := (hSw.cell (p := ⟨w.heap.size, 4, none⟩) ha).trans a4
      have c5 := (hSw.cell (p := ⟨w.heap.size, 5, none⟩) ha).trans a5
      go_simp
      try with_reducible rfl
    try simp only [Act.put, List.setIfInBounds_toArray, List.set_cons_zero, List.set_cons_succ]
    refine wpAnyH_take (i := 2) (oi := ⟨some 12, .load 50 (.tmp 3), _, _, _, none⟩) (v := ?_) rfl (by kernel_rfl) (by kernel_rfl) (by kernel_rfl) (fun _ _ _ h => h) (Or.inl ⟨by rfl, ?_⟩) (by assumption) ?_
    rotate_left
    · intro wk hSw
      try dsimp only at hSw
      have c0 := (hSw.cell (p := ⟨w.heap.size + 1, 0, none⟩) hb2).trans b0
      have c1 := (hSw.cell (p := ⟨w.heap.size + 1, 1, none⟩) hb2).trans b1
      have c2 := (hSw.cell (p := ⟨w.heap.size + 1, 2, none⟩) hb2).trans b2
      have c3 := (hSw.cell (p := ⟨w.heap.size + 1, 3, none⟩) hb2).trans b3
      have c4 := (hSw.cell (p := ⟨w.heap.size + 1, 4, none⟩) hb2).trans b4
      have c5 := (hSw.cell (p := ⟨w.heap.size + 1, 5, none⟩) hb2).trans b5
      go_simp
      try with_reducible rfl
    try simp only [Act.put, List.setIfInBounds_toArray, List.set_cons_zero, List.set_cons_succ]
    refine wpAnyH_take (i := 6) (oi := ⟨some 16, .move (.const (.int .i64 0)), _, _, _, none⟩) (v := ?_) rfl (by kernel_rfl) (by kernel_rfl) (by kernel_rfl) (fun _ _ _ h => h) (Or.inl ⟨by rfl, ?_⟩) (by assumption) ?_
    rotate_left
    · intro wk hSw
      try dsimp only at hSw
      go_simp
      try with_reducible rfl
    try simp only [Act.put, List.setIfInBounds_toArray, List.set_cons_zero, List.set_cons_succ]
    refine wpAnyH_ready (rs := [1]) (by kernel_rfl) (by simp) ?_
    refine AllReadyH.cons (o := ⟨some 11, _, _, _, _, none⟩) rfl (fun K hK => ?_) AllReadyH.nil
    go_simp
    (go_at_call 95; refine (HLA.out _ (HW0.out.trans ((gdrew1 W0).mono HW0.out.size))).mono ?_; rintro e wq ⟨v1, rfl, ho, hb⟩)
    have HB1 := Kp.mk ((gdrew1 W0).trans hb)
    have HR1 := Kp.mk (rds_own ho)
    clear ho
    clear hb
    try go_wp2_with fail
    refine hK.out _ _ (HB1.out.mono hsz) (fun hHeld2 => ?_)
    clear hK K
    try simp only [Act.put, List.setIfInBounds_toArray, List.set_cons_zero, List.set_cons_succ]
    refine wpAnyH_ready (rs := [3]) (by kernel_rfl) (by simp) ?_
    refine AllReadyH.cons (o := ⟨some 13, _, _, _, _, none⟩) rfl (fun K hK => ?_) AllReadyH.nil
    go_simp
    (go_at_call 95; refine (HLB.out _ (HW0.out.trans (HB1.out.mono HW0.out.size))).mono ?_; rintro e wq ⟨v2, rfl, ho, hb⟩)
    have HB2 := Kp.mk (HB1.out.trans (hb.mono HB1.out.size))
    have HR2 := Kp.mk (rds_own ho)
    have HR1b := Kp.mk (RdL.below HR1.out hb)
    clear ho
    clear hb
    try go_wp2_with fail
    refine hK.out _ _ (HB2.out.mono hsz) (fun hHeld2 => ?_)
    clear hK K
    try simp only [Act.put, List.setIfInBounds_toArray, List.set_cons_zero, List.set_cons_succ]
    refine wpAnyH_ready (rs := [4]) (by kernel_rfl) (by simp) ?_
    refine AllReadyH.cons (o := ⟨some 14, _, _, _, _, none⟩) rfl (fun K hK => ?_) AllReadyH.nil
    go_simp
    (go_at_call 58; refine (dlines_any _ _ A B _ HR1b.out HR2.out hlA hlB).mono ?_; rintro e wq ⟨v3, rfl, ho, hb⟩)
    have HB3 := Kp.mk (HB2.out.trans (hb.mono HB2.out.size))
    have HO3 := Kp.mk (own_upC ho (Nat.le_trans hsz HB2.out.size))
    obtain ⟨a3, c3, rfl⟩ := own_lenH ho
    clear ho
    clear hb
    try go_wp2_with fail
    refine hK.out _ _ (HB3.out.mono hsz) (fun hHeld2 => ?_)
    clear hK K
    try simp only [Act.put, List.setIfInBounds_toArray, List.set_cons_zero, List.set_cons_succ]
    refine wpAnyH_take (i := 5) (oi := ⟨some 15, .call { callee := .builtin .len, args := #[.tmp 14], argTypes := #[91] }, _, _, _, none⟩) (v := ?_) rfl (by kernel_rfl) (by kernel_rfl) (by kernel_rfl) (fun _ _ _ h => h) (Or.inl ⟨by rfl, ?_⟩) (by assumption) ?_
    rotate_left
    · intro wk hSw
      try dsimp only at hSw
      go_simp
      try with_reducible rfl
    try simp only [Act.put, List.setIfInBounds_toArray, List.set_cons_zero, List.set_cons_succ]
    refine wpAnyH_done (by kernel_rfl) ?_ _
    go_wp2_with fail
    go_meet
    exact ⟨_, _, rfl, rfl, rfl, HZ.out _ _ _ HO3.out HB3.out⟩
  case rest =>
    obtain ⟨a9, c9, rfl, rfl, rfl, hH⟩ := hcut
    have HI := Kp.mk hH
    clear hH HZ a0 a1 a2 a3 a4 a5 b0 b1 b2 b3 b4 b5 q3 HLA HLB
    generalize hn : (dfL A B).length = n at *
    have HN := Kp.mk hn
    clear hn
    have hn2 : n ≤ 200 := HDL.out
    go_wp2_with fail
    go_loopw [6, 16] (fun ov i wr => ∃ k : Nat, k ≤ n ∧ i = .int .i64 k ∧ HH w A B k ov (.slice a9 n c9) n wr) (fun _ i _ => n - (intOf i).toNat)
    case atStart => exact ⟨0, Nat.zero_le _, rfl, HI.out⟩
    case round =>
      obtain ⟨k, hk, rfl, hH⟩ := hrel
      have HJ := Kp.mk hH
      obtain ⟨ao, co, rfl⟩ := own_lenH hH.o
      clear hH
      by_cases hlt : k < n
      · have hkl : k < (dfL A B).length := by have := HN.out; omega
        have hrd : RdDr wr (.slice a9 n c9) (dfL A B) := rddr_own (by rw [HN.out]; exact HJ.out.d)
        obtain ⟨g, o, rfl, hgl, d⟩ := rddr_cells hrd (by omega)
        obtain ⟨c1, c2⟩ := d k hkl
        obtain ⟨hsg, hys⟩ := HSZ.out _ (List.getElem_mem hkl)
        have HYS := Kp.mk hys
        have HST := Kp.mk (show ((dfL A B).take (k + 1)).map hdT = ((dfL A B).take k).map hdT ++ [hdT (dfL A B)[k]] by rw [List.take_succ_eq_append_getElem hkl, List.map_append]; rfl)
        have hal : (((dfL A B).take k).map hdT).length ≤ 200 := by rw [List.length_map, List.length_take]; omega
        have r1 : (k : Int) < (n : Int) := by omega
        have r0 : (0 : Int) ≤ (k : Int) := by omega
        clear d hrd hys
        generalize (dfL A B)[k] = f at *
        obtain ⟨sg, y⟩ := f
        dsimp only at c1 c2 hsg HYS
        have HOW := Kp.mk HJ.out.o
        generalize hacc : ((dfL A B).take k).map hdT = acc at *
        clear hacc
        have lenC : (acc.length + 1) * 16 ≤ 140737488355328 := by omega
        have lenD : acc.length + 1 ≤ maxLen := by unfold maxLen; omega
        have HBE := (Below.refl wr.heap.size wr).alloc (Nat.le_refl _) (.cells #[.int .i64 sg, .string y] 99)
        have HBX := Kp.mk (heap_alloc_new wr (.cells #[.int .i64 sg, .string y] 99))
        have HSB := Kp.mk (blk_alloc (o2 := .cells #[.int .i64 sg, .string y] 99) HJ.out.s)
        have HOB := Kp.mk (show ((wr.alloc (.cells #[.int .i64 sg, .string y] 99)).drew).ownsRow (w.heap.size + 3) 9 1 (.slice ao acc.length co) acc.length (svH acc) from own_kC (own_bel HOW.out HBE) fun _ _ _ => rfl)
        have HDB := Kp.mk (show ((wr.alloc (.cells #[.int .i64 sg, .string y] 99)).drew).ownsRow (w.heap.size + 3) 99 2 (.slice (some ⟨g, o, none⟩) n c9) n (drL (dfL A B)) from own_kC (own_bel HJ.out.d HBE) fun _ _ _ => rfl)
        have HNB := Kp.mk (show (Value.slice ao acc.length co).ownBlock ≠ some wr.heap.size from fun e => by have := (HOW.out.lt _ e).2; omega)
        have HNS := Kp.mk (show (Value.slice ao acc.length co).ownBlock ≠ some (w.heap.size + 2) from fun e => by have := (HOW.out.lt _ e).1; omega)
        have hws := blk_lt HJ.out.s
        have hBB : w.heap.size + 3 ≤ ((wr.alloc (.cells #[.int .i64 sg, .string y] 99)).drew).heap.size := by show _ ≤ (wr.alloc (.cells #[.int .i64 sg, .string y] 99)).heap.size; rw [World.size_alloc]; omega
        have HNX := Kp.mk (fun (g' cap' : Nat) (w6 : World) (x : ByteArray) (h1 : w6.ownsRow (w.heap.size + 3) 9 1 (.slice (some ⟨g', 0, none⟩) (acc.length + 1) cap') (acc.length + 1) (svH acc ++ [.string (sgT sg ++ y)])) (h2 : ((wr.alloc (.cells #[.int .i64 sg, .string y] 99)).drew.alloc (.cells #[.string x] 9)).grownBy w6 (Value.slice ao acc.length co).ownBlock) =>
          (show HH w A B (k + 1) (.slice (some ⟨g', 0, none⟩) (acc.length + 1) cap') (.slice (some ⟨g, o, none⟩) n c9) n w6 from
            ⟨by rw [HST.out, List.length_append, svH_snoc]; exact h1,
             own_kC HDB.out fun j hj hb => (h2.block j (by rw [World.size_alloc]; exact Nat.lt_succ_of_lt hj) (fun e => own_type_ne HOB.out HDB.out (by decide) j e.symm hb)).trans (Below.heap_alloc _ _ j hj),
             ((h2.block (w.heap.size + 2) (by rw [World.size_alloc]; exact Nat.lt_succ_of_lt (show w.heap.size + 2 < (wr.alloc (.cells #[.int .i64 sg, .string y] 99)).heap.size from blk_lt HSB.out)) (fun e => HNS.out e.symm)).trans (Below.heap_alloc (wr.alloc (.cells #[.int .i64 sg, .string y] 99)).drew _ (w.heap.size + 2) (show w.heap.size + 2 < (wr.alloc (.cells #[.int .i64 sg, .string y] 99)).heap.size from blk_lt HSB.out))).trans HSB.out,
             HJ.out.b.trans ((HBE.mono HJ.out.b.size).trans ((show Below w.heap.size (wr.alloc (.cells #[.int .i64 sg, .string y] 99)) (wr.alloc (.cells #[.int .i64 sg, .string y] 99)).drew from ⟨rfl, rfl, rfl, Nat.le_refl _, fun _ _ => rfl⟩).trans ((grown_bel HOB.out hBB h2).mono (by omega))))⟩))
        have z0 : (wr.alloc (.cells #[.int .i64 sg, .string y] 99)).drew.cell? ⟨wr.heap.size, 0, none⟩ = some (.int .i64 sg) := blk_cell (i := 0) HBX.out rfl
        have z1 : (wr.alloc (.cells #[.int .i64 sg, .string y] 99)).drew.cell? ⟨wr.heap.size, 1, none⟩ = some (.string y) := blk_cell (i := 1) HBX.out rfl
        clear HBE hkl
        rcases hsg with rfl | rfl | rfl
        · go_upto_region 6 with fail
          have HSB := HSB
          have z2 : (wr.alloc (.cells #[.int .i64 0, .string y] 99)).drew.cell? ⟨w.heap.size + 2, 0, none⟩ = some (.string ⟨#[32, 32]⟩) := blk_cell (i := 0) HSB.out rfl
          have k2 := blk_cell (i := 0) ((Below.heap_alloc (wr.alloc (.cells #[.int .i64 0, .string y] 99)).drew (.cells #[.string (⟨#[32, 32]⟩ ++ y)] 9) (w.heap.size + 2) (show w.heap.size + 2 < (wr.alloc (.cells #[.int .i64 0, .string y] 99)).heap.size from blk_lt HSB.out)).trans HSB.out) rfl
          have k0 := blk_cell (i := 0) ((Below.heap_alloc (wr.alloc (.cells #[.int .i64 0, .string y] 99)).drew (.cells #[.string (⟨#[32, 32]⟩ ++ y)] 9) wr.heap.size (show wr.heap.size < (wr.alloc (.cells #[.int .i64 0, .string y] 99)).heap.size from blk_lt HBX.out)).trans HBX.out) rfl
          have k1 := blk_cell (i := 1) ((Below.heap_alloc (wr.alloc (.cells #[.int .i64 0, .string y] 99)).drew (.cells #[.string (⟨#[32, 32]⟩ ++ y)] 9) wr.heap.size (show wr.heap.size < (wr.alloc (.cells #[.int .i64 0, .string y] 99)).heap.size from blk_lt HBX.out)).trans HBX.out) rfl
          have hsx : ¬ 9223372036854775807 < 2 + y.size := by have := HYS.out; omega
          refine wp_region_held_drew (S := fun w' => w'.cell? ⟨wr.heap.size, 0, none⟩ = some (.int .i64 0) ∧ w'.cell? ⟨wr.heap.size, 1, none⟩ = some (.string y) ∧ w'.cell? ⟨w.heap.size + 2, 0, none⟩ = some (.string ⟨#[32, 32]⟩)) (by kernel_rfl) (show _ from ⟨z0, z1, z2⟩) (fun hHeld => ?_)
          refine wpAnyH_take (i := 0) (oi := ⟨some 20, .move (.tmp 6), _, _, _, none⟩) (v := ?_) rfl (by kernel_rfl) (by kernel_rfl) (by kernel_rfl) (fun _ _ _ h => h) (Or.inl ⟨by rfl, ?_⟩) (by assumption) ?_
          rotate_left
          · intro wk hSw
            try dsimp only at hSw
            go_simp
            try with_reducible rfl
          try simp only [Act.put, List.setIfInBounds_toArray, List.set_cons_zero, List.set_cons_succ]
          refine wpAnyH_take (i := 1) (oi := ⟨some 21, .fieldAddr 99 (.tmp 8) 0, _, _, _, none⟩) (v := ?_) rfl (by kernel_rfl) (by kernel_rfl) (by kernel_rfl) (fun _ _ _ h => h) (Or.inl ⟨by rfl, ?_⟩) (by assumption) ?_
          rotate_left
          · intro wk hSw
            try dsimp only at hSw
            go_simp
            try with_reducible rfl
          try simp only [Act.put, List.setIfInBounds_toArray, List.set_cons_zero, List.set_cons_succ]
          refine wpAnyH_take (i := 2) (oi := ⟨some 22, .load 3 (.tmp 21), _, _, _, none⟩) (v := ?_) rfl (by kernel_rfl) (by kernel_rfl) (by kernel_rfl) (fun _ _ _ h => h) (Or.inl ⟨by rfl, ?_⟩) (by assumption) ?_
          rotate_left
          · intro wk hSw
            try dsimp only at hSw
            go_simp
            try with_reducible rfl
          try simp only [Act.put, List.setIfInBounds_toArray, List.set_cons_zero, List.set_cons_succ]
          refine wpAnyH_take (i := 3) (oi := ⟨some 23, .indexAddr 136 (.tmp 5) (.tmp 22), _, _, _, none⟩) (v := ?_) rfl (by kernel_rfl) (by kernel_rfl) (by kernel_rfl) (fun _ _ _ h => h) (Or.inl ⟨by rfl, ?_⟩) (by assumption) ?_
          rotate_left
          · intro wk hSw
            try dsimp only at hSw
            go_simp
            try with_reducible rfl
          try simp only [Act.put, List.setIfInBounds_toArray, List.set_cons_zero, List.set_cons_succ]
          refine wpAnyH_take (i := 4) (oi := ⟨some 24, .load 9 (.tmp 23), _, _, _, none⟩) (v := ?_) rfl (by kernel_rfl) (by kernel_rfl) (by kernel_rfl) (fun _ _ _ h => h) (Or.inl ⟨by rfl, ?_⟩) (by assumption) ?_
          rotate_left
          · intro wk hSw
            try dsimp only at hSw
            go_simp
            try with_reducible rfl
          try simp only [Act.put, List.setIfInBounds_toArray, List.set_cons_zero, List.set_cons_succ]
          refine wpAnyH_take (i := 5) (oi := ⟨some 25, .fieldAddr 99 (.tmp 8) 1, _, _, _, none⟩) (v := ?_) rfl (by kernel_rfl) (by kernel_rfl) (by kernel_rfl) (fun _ _ _ h => h) (Or.inl ⟨by rfl, ?_⟩) (by assumption) ?_
          rotate_left
          · intro wk hSw
            try dsimp only at hSw
            go_simp
            try with_reducible rfl
          try simp only [Act.put, List.setIfInBounds_toArray, List.set_cons_zero, List.set_cons_succ]
          refine wpAnyH_take (i := 6) (oi := ⟨some 26, .load 9 (.tmp 25), _, _, _, none⟩) (v := ?_) rfl (by kernel_rfl) (by kernel_rfl) (by kernel_rfl) (fun _ _ _ h => h) (Or.inl ⟨by rfl, ?_⟩) (by assumption) ?_
          rotate_left
          · intro wk hSw
            try dsimp only at hSw
            go_simp
            try with_reducible rfl
          try simp only [Act.put, List.setIfInBounds_toArray, List.set_cons_zero, List.set_cons_succ]
          refine wpAnyH_take (i := 7) (oi := ⟨some 27, .binOp .add 9 (.tmp 24) (.tmp 26) 9, _, _, _, none⟩) (v := ?_) rfl (by kernel_rfl) (by kernel_rfl) (by kernel_rfl) (fun _ _ _ h => h) (Or.inl ⟨by rfl, ?_⟩) (by assumption) ?_
          rotate_left
          · intro wk hSw
            try dsimp only at hSw
            go_simp
            try with_reducible rfl
          try simp only [Act.put, List.setIfInBounds_toArray, List.set_cons_zero, List.set_cons_succ]
          refine wpAnyH_ready (rs := [8]) (by kernel_rfl) (by simp) ?_
          refine AllReadyH.cons (o := ⟨some 28, _, _, _, _, none⟩) rfl (fun K hK => ?_) AllReadyH.nil
          go_simp
          refine hK.out _ _ (⟨k0, k1, k2⟩) (fun hHeld2 => ?_)
          clear hK K
          try simp only [Act.put, List.setIfInBounds_toArray, List.set_cons_zero, List.set_cons_succ]
          refine wpAnyH_ready (rs := [9]) (by kernel_rfl) (by simp) ?_
          refine AllReadyH.cons (o := ⟨some 29, _, _, _, _, none⟩) rfl (fun K hK => ?_) AllReadyH.nil
          apply oq_app_any (wr := (wr.alloc (.cells #[.int .i64 0, .string y] 99)).drew) (e := 9) (cs := #[.string (⟨#[32, 32]⟩ ++ y)]) (B := w.heap.size + 3) (v := .slice ao acc.length co) (hown := HOB.out) (H := wr.heap.size + 1) (hH := World.size_alloc wr _) (hlen := lenC) (hm := lenD) (hB := hBB) (hi := Try.infoSH) (ht := Try.underlying84)
          all_goals (try (first | rfl | decide | (intro u hu; simp at hu; subst hu; rfl)))
          intro g' cap' w6 h1 h2 h3
          have HF := Kp.mk (HNX.out _ _ _ _ h1 h2)
          have n0 := (h2.block wr.heap.size (by simp; omega) (fun e => HNB.out e.symm)).trans ((Below.heap_alloc (wr.alloc (.cells #[.int .i64 0, .string y] 99)).drew _ wr.heap.size (show wr.heap.size < (wr.alloc (.cells #[.int .i64 0, .string y] 99)).heap.size from blk_lt HBX.out)).trans HBX.out)
          have n2 := (h2.block (w.heap.size + 2) (by simp; omega) (fun e => HNS.out e.symm)).trans ((Below.heap_alloc (wr.alloc (.cells #[.int .i64 0, .string y] 99)).drew _ (w.heap.size + 2) (show w.heap.size + 2 < (wr.alloc (.cells #[.int .i64 0, .string y] 99)).heap.size from blk_lt HSB.out)).trans HSB.out)
          have HS6 := Kp.mk (And.intro (blk_cell (i := 0) n0 rfl) (And.intro (blk_cell (i := 1) n0 rfl) (blk_cell (i := 0) n2 rfl)))
          clear h1 h2 h3 n0 n2
          refine hK.out _ _ (HS6.out) (fun hHeld2 => ?_)
          clear hK K
          try simp only [Act.put, List.setIfInBounds_toArray, List.set_cons_zero, List.set_cons_succ]
          refine wpAnyH_take (i := 10) (oi := ⟨some 6, .assign (.tmp 29), _, _, _, none⟩) (v := ?_) rfl (by kernel_rfl) (by kernel_rfl) (by kernel_rfl) (fun _ _ _ h => h) (Or.inl ⟨by rfl, ?_⟩) (by assumption) ?_
          rotate_left
          · intro w hSw
            try dsimp only at hSw
            go_simp
            try with_reducible rfl
          try simp only [Act.put, List.setIfInBounds_toArray, List.set_cons_zero, List.set_cons_succ]
          refine wpAnyH_done (by kernel_rfl) ?_ _
          go_wp2_with fail
          go_roundw
          case rel => exact ⟨k + 1, by omega, by go_num, HF.out⟩
          case measure => simp [intOf] <;> omega
        · go_upto_region 6 with fail
          have HSB := HSB
          have z2 : (wr.alloc (.cells #[.int .i64 1, .string y] 99)).drew.cell? ⟨w.heap.size + 2, 1, none⟩ = some (.string ⟨#[45, 32]⟩) := blk_cell (i := 1) HSB.out rfl
          have k2 := blk_cell (i := 1) ((Below.heap_alloc (wr.alloc (.cells #[.int .i64 1, .string y] 99)).drew (.cells #[.string (⟨#[45, 32]⟩ ++ y)] 9) (w.heap.size + 2) (show w.heap.size + 2 < (wr.alloc (.cells #[.int .i64 1, .string y] 99)).heap.size from blk_lt HSB.out)).trans HSB.out) rfl
          have k0 := blk_cell (i := 0) ((Below.heap_alloc (wr.alloc (.cells #[.int .i64 1, .string y] 99)).drew (.cells #[.string (⟨#[45, 32]⟩ ++ y)] 9) wr.heap.size (show wr.heap.size < (wr.alloc (.cells #[.int .i64 1, .string y] 99)).heap.size from blk_lt HBX.out)).trans HBX.out) rfl
          have k1 := blk_cell (i := 1) ((Below.heap_alloc (wr.alloc (.cells #[.int .i64 1, .string y] 99)).drew (.cells #[.string (⟨#[45, 32]⟩ ++ y)] 9) wr.heap.size (show wr.heap.size < (wr.alloc (.cells #[.int .i64 1, .string y] 99)).heap.size from blk_lt HBX.out)).trans HBX.out) rfl
          have hsx : ¬ 9223372036854775807 < 2 + y.size := by have := HYS.out; omega
          refine wp_region_held_drew (S := fun w' => w'.cell? ⟨wr.heap.size, 0, none⟩ = some (.int .i64 1) ∧ w'.cell? ⟨wr.heap.size, 1, none⟩ = some (.string y) ∧ w'.cell? ⟨w.heap.size + 2, 1, none⟩ = some (.string ⟨#[45, 32]⟩)) (by kernel_rfl) (show _ from ⟨z0, z1, z2⟩) (fun hHeld => ?_)
          refine wpAnyH_take (i := 0) (oi := ⟨some 20, .move (.tmp 6), _, _, _, none⟩) (v := ?_) rfl (by kernel_rfl) (by kernel_rfl) (by kernel_rfl) (fun _ _ _ h => h) (Or.inl ⟨by rfl, ?_⟩) (by assumption) ?_
          rotate_left
          · intro wk hSw
            try dsimp only at hSw
            go_simp
            try with_reducible rfl
          try simp only [Act.put, List.setIfInBounds_toArray, List.set_cons_zero, List.set_cons_succ]
          refine wpAnyH_take (i := 1) (oi := ⟨some 21, .fieldAddr 99 (.tmp 8) 0, _, _, _, none⟩) (v := ?_) rfl (by kernel_rfl) (by kernel_rfl) (by kernel_rfl) (fun _ _ _ h => h) (Or.inl ⟨by rfl, ?_⟩) (by assumption) ?_
          rotate_left
          · intro wk hSw
            try dsimp only at hSw
            go_simp
            try with_reducible rfl
          try simp only [Act.put, List.setIfInBounds_toArray, List.set_cons_zero, List.set_cons_succ]
          refine wpAnyH_take (i := 2) (oi := ⟨some 22, .load 3 (.tmp 21), _, _, _, none⟩) (v := ?_) rfl (by kernel_rfl) (by kernel_rfl) (by kernel_rfl) (fun _ _ _ h => h) (Or.inl ⟨by rfl, ?_⟩) (by assumption) ?_
          rotate_left
          · intro wk hSw
            try dsimp only at hSw
            go_simp
            try with_reducible rfl
          try simp only [Act.put, List.setIfInBounds_toArray, List.set_cons_zero, List.set_cons_succ]
          refine wpAnyH_take (i := 3) (oi := ⟨some 23, .indexAddr 136 (.tmp 5) (.tmp 22), _, _, _, none⟩) (v := ?_) rfl (by kernel_rfl) (by kernel_rfl) (by kernel_rfl) (fun _ _ _ h => h) (Or.inl ⟨by rfl, ?_⟩) (by assumption) ?_
          rotate_left
          · intro wk hSw
            try dsimp only at hSw
            go_simp
            try with_reducible rfl
          try simp only [Act.put, List.setIfInBounds_toArray, List.set_cons_zero, List.set_cons_succ]
          refine wpAnyH_take (i := 4) (oi := ⟨some 24, .load 9 (.tmp 23), _, _, _, none⟩) (v := ?_) rfl (by kernel_rfl) (by kernel_rfl) (by kernel_rfl) (fun _ _ _ h => h) (Or.inl ⟨by rfl, ?_⟩) (by assumption) ?_
          rotate_left
          · intro wk hSw
            try dsimp only at hSw
            go_simp
            try with_reducible rfl
          try simp only [Act.put, List.setIfInBounds_toArray, List.set_cons_zero, List.set_cons_succ]
          refine wpAnyH_take (i := 5) (oi := ⟨some 25, .fieldAddr 99 (.tmp 8) 1, _, _, _, none⟩) (v := ?_) rfl (by kernel_rfl) (by kernel_rfl) (by kernel_rfl) (fun _ _ _ h => h) (Or.inl ⟨by rfl, ?_⟩) (by assumption) ?_
          rotate_left
          · intro wk hSw
            try dsimp only at hSw
            go_simp
            try with_reducible rfl
          try simp only [Act.put, List.setIfInBounds_toArray, List.set_cons_zero, List.set_cons_succ]
          refine wpAnyH_take (i := 6) (oi := ⟨some 26, .load 9 (.tmp 25), _, _, _, none⟩) (v := ?_) rfl (by kernel_rfl) (by kernel_rfl) (by kernel_rfl) (fun _ _ _ h => h) (Or.inl ⟨by rfl, ?_⟩) (by assumption) ?_
          rotate_left
          · intro wk hSw
            try dsimp only at hSw
            go_simp
            try with_reducible rfl
          try simp only [Act.put, List.setIfInBounds_toArray, List.set_cons_zero, List.set_cons_succ]
          refine wpAnyH_take (i := 7) (oi := ⟨some 27, .binOp .add 9 (.tmp 24) (.tmp 26) 9, _, _, _, none⟩) (v := ?_) rfl (by kernel_rfl) (by kernel_rfl) (by kernel_rfl) (fun _ _ _ h => h) (Or.inl ⟨by rfl, ?_⟩) (by assumption) ?_
          rotate_left
          · intro wk hSw
            try dsimp only at hSw
            go_simp
            try with_reducible rfl
          try simp only [Act.put, List.setIfInBounds_toArray, List.set_cons_zero, List.set_cons_succ]
          refine wpAnyH_ready (rs := [8]) (by kernel_rfl) (by simp) ?_
          refine AllReadyH.cons (o := ⟨some 28, _, _, _, _, none⟩) rfl (fun K hK => ?_) AllReadyH.nil
          go_simp
          refine hK.out _ _ (⟨k0, k1, k2⟩) (fun hHeld2 => ?_)
          clear hK K
          try simp only [Act.put, List.setIfInBounds_toArray, List.set_cons_zero, List.set_cons_succ]
          refine wpAnyH_ready (rs := [9]) (by kernel_rfl) (by simp) ?_
          refine AllReadyH.cons (o := ⟨some 29, _, _, _, _, none⟩) rfl (fun K hK => ?_) AllReadyH.nil
          apply oq_app_any (wr := (wr.alloc (.cells #[.int .i64 1, .string y] 99)).drew) (e := 9) (cs := #[.string (⟨#[45, 32]⟩ ++ y)]) (B := w.heap.size + 3) (v := .slice ao acc.length co) (hown := HOB.out) (H := wr.heap.size + 1) (hH := World.size_alloc wr _) (hlen := lenC) (hm := lenD) (hB := hBB) (hi := Try.infoSH) (ht := Try.underlying84)
          all_goals (try (first | rfl | decide | (intro u hu; simp at hu; subst hu; rfl)))
          intro g' cap' w6 h1 h2 h3
          have HF := Kp.mk (HNX.out _ _ _ _ h1 h2)
          have n0 := (h2.block wr.heap.size (by simp; omega) (fun e => HNB.out e.symm)).trans ((Below.heap_alloc (wr.alloc (.cells #[.int .i64 1, .string y] 99)).drew _ wr.heap.size (show wr.heap.size < (wr.alloc (.cells #[.int .i64 1, .string y] 99)).heap.size from blk_lt HBX.out)).trans HBX.out)
          have n2 := (h2.block (w.heap.size + 2) (by simp; omega) (fun e => HNS.out e.symm)).trans ((Below.heap_alloc (wr.alloc (.cells #[.int .i64 1, .string y] 99)).drew _ (w.heap.size + 2) (show w.heap.size + 2 < (wr.alloc (.cells #[.int .i64 1, .string y] 99)).heap.size from blk_lt HSB.out)).trans HSB.out)
          have HS6 := Kp.mk (And.intro (blk_cell (i := 0) n0 rfl) (And.intro (blk_cell (i := 1) n0 rfl) (blk_cell (i := 1) n2 rfl)))
          clear h1 h2 h3 n0 n2
          refine hK.out _ _ (HS6.out) (fun hHeld2 => ?_)
          clear hK K
          try simp only [Act.put, List.setIfInBounds_toArray, List.set_cons_zero, List.set_cons_succ]
          refine wpAnyH_take (i := 10) (oi := ⟨some 6, .assign (.tmp 29), _, _, _, none⟩) (v := ?_) rfl (by kernel_rfl) (by kernel_rfl) (by kernel_rfl) (fun _ _ _ h => h) (Or.inl ⟨by rfl, ?_⟩) (by assumption) ?_
          rotate_left
          · intro w hSw
            try dsimp only at hSw
            go_simp
            try with_reducible rfl
          try simp only [Act.put, List.setIfInBounds_toArray, List.set_cons_zero, List.set_cons_succ]
          refine wpAnyH_done (by kernel_rfl) ?_ _
          go_wp2_with fail
          go_roundw
          case rel => exact ⟨k + 1, by omega, by go_num, HF.out⟩
          case measure => simp [intOf] <;> omega
        · go_upto_region 6 with fail
          have HSB := HSB
          have z2 : (wr.alloc (.cells #[.int .i64 2, .string y] 99)).drew.cell? ⟨w.heap.size + 2, 2, none⟩ = some (.string ⟨#[43, 32]⟩) := blk_cell (i := 2) HSB.out rfl
          have k2 := blk_cell (i := 2) ((Below.heap_alloc (wr.alloc (.cells #[.int .i64 2, .string y] 99)).drew (.cells #[.string (⟨#[43, 32]⟩ ++ y)] 9) (w.heap.size + 2) (show w.heap.size + 2 < (wr.alloc (.cells #[.int .i64 2, .string y] 99)).heap.size from blk_lt HSB.out)).trans HSB.out) rfl
          have k0 := blk_cell (i := 0) ((Below.heap_alloc (wr.alloc (.cells #[.int .i64 2, .string y] 99)).drew (.cells #[.string (⟨#[43, 32]⟩ ++ y)] 9) wr.heap.size (show wr.heap.size < (wr.alloc (.cells #[.int .i64 2, .string y] 99)).heap.size from blk_lt HBX.out)).trans HBX.out) rfl
          have k1 := blk_cell (i := 1) ((Below.heap_alloc (wr.alloc (.cells #[.int .i64 2, .string y] 99)).drew (.cells #[.string (⟨#[43, 32]⟩ ++ y)] 9) wr.heap.size (show wr.heap.size < (wr.alloc (.cells #[.int .i64 2, .string y] 99)).heap.size from blk_lt HBX.out)).trans HBX.out) rfl
          have hsx : ¬ 9223372036854775807 < 2 + y.size := by have := HYS.out; omega
          refine wp_region_held_drew (S := fun w' => w'.cell? ⟨wr.heap.size, 0, none⟩ = some (.int .i64 2) ∧ w'.cell? ⟨wr.heap.size, 1, none⟩ = some (.string y) ∧ w'.cell? ⟨w.heap.size + 2, 2, none⟩ = some (.string ⟨#[43, 32]⟩)) (by kernel_rfl) (show _ from ⟨z0, z1, z2⟩) (fun hHeld => ?_)
          refine wpAnyH_take (i := 0) (oi := ⟨some 20, .move (.tmp 6), _, _, _, none⟩) (v := ?_) rfl (by kernel_rfl) (by kernel_rfl) (by kernel_rfl) (fun _ _ _ h => h) (Or.inl ⟨by rfl, ?_⟩) (by assumption) ?_
          rotate_left
          · intro wk hSw
            try dsimp only at hSw
            go_simp
            try with_reducible rfl
          try simp only [Act.put, List.setIfInBounds_toArray, List.set_cons_zero, List.set_cons_succ]
          refine wpAnyH_take (i := 1) (oi := ⟨some 21, .fieldAddr 99 (.tmp 8) 0, _, _, _, none⟩) (v := ?_) rfl (by kernel_rfl) (by kernel_rfl) (by kernel_rfl) (fun _ _ _ h => h) (Or.inl ⟨by rfl, ?_⟩) (by assumption) ?_
          rotate_left
          · intro wk hSw
            try dsimp only at hSw
            go_simp
            try with_reducible rfl
          try simp only [Act.put, List.setIfInBounds_toArray, List.set_cons_zero, List.set_cons_succ]
          refine wpAnyH_take (i := 2) (oi := ⟨some 22, .load 3 (.tmp 21), _, _, _, none⟩) (v := ?_) rfl (by kernel_rfl) (by kernel_rfl) (by kernel_rfl) (fun _ _ _ h => h) (Or.inl ⟨by rfl, ?_⟩) (by assumption) ?_
          rotate_left
          · intro wk hSw
            try dsimp only at hSw
            go_simp
            try with_reducible rfl
          try simp only [Act.put, List.setIfInBounds_toArray, List.set_cons_zero, List.set_cons_succ]
          refine wpAnyH_take (i := 3) (oi := ⟨some 23, .indexAddr 136 (.tmp 5) (.tmp 22), _, _, _, none⟩) (v := ?_) rfl (by kernel_rfl) (by kernel_rfl) (by kernel_rfl) (fun _ _ _ h => h) (Or.inl ⟨by rfl, ?_⟩) (by assumption) ?_
          rotate_left
          · intro wk hSw
            try dsimp only at hSw
            go_simp
            try with_reducible rfl
          try simp only [Act.put, List.setIfInBounds_toArray, List.set_cons_zero, List.set_cons_succ]
          refine wpAnyH_take (i := 4) (oi := ⟨some 24, .load 9 (.tmp 23), _, _, _, none⟩) (v := ?_) rfl (by kernel_rfl) (by kernel_rfl) (by kernel_rfl) (fun _ _ _ h => h) (Or.inl ⟨by rfl, ?_⟩) (by assumption) ?_
          rotate_left
          · intro wk hSw
            try dsimp only at hSw
            go_simp
            try with_reducible rfl
          try simp only [Act.put, List.setIfInBounds_toArray, List.set_cons_zero, List.set_cons_succ]
          refine wpAnyH_take (i := 5) (oi := ⟨some 25, .fieldAddr 99 (.tmp 8) 1, _, _, _, none⟩) (v := ?_) rfl (by kernel_rfl) (by kernel_rfl) (by kernel_rfl) (fun _ _ _ h => h) (Or.inl ⟨by rfl, ?_⟩) (by assumption) ?_
          rotate_left
          · intro wk hSw
            try dsimp only at hSw
            go_simp
            try with_reducible rfl
          try simp only [Act.put, List.setIfInBounds_toArray, List.set_cons_zero, List.set_cons_succ]
          refine wpAnyH_take (i := 6) (oi := ⟨some 26, .load 9 (.tmp 25), _, _, _, none⟩) (v := ?_) rfl (by kernel_rfl) (by kernel_rfl) (by kernel_rfl) (fun _ _ _ h => h) (Or.inl ⟨by rfl, ?_⟩) (by assumption) ?_
          rotate_left
          · intro wk hSw
            try dsimp only at hSw
            go_simp
            try with_reducible rfl
          try simp only [Act.put, List.setIfInBounds_toArray, List.set_cons_zero, List.set_cons_succ]
          refine wpAnyH_take (i := 7) (oi := ⟨some 27, .binOp .add 9 (.tmp 24) (.tmp 26) 9, _, _, _, none⟩) (v := ?_) rfl (by kernel_rfl) (by kernel_rfl) (by kernel_rfl) (fun _ _ _ h => h) (Or.inl ⟨by rfl, ?_⟩) (by assumption) ?_
          rotate_left
          · intro wk hSw
            try dsimp only at hSw
            go_simp
            try with_reducible rfl
          try simp only [Act.put, List.setIfInBounds_toArray, List.set_cons_zero, List.set_cons_succ]
          refine wpAnyH_ready (rs := [8]) (by kernel_rfl) (by simp) ?_
          refine AllReadyH.cons (o := ⟨some 28, _, _, _, _, none⟩) rfl (fun K hK => ?_) AllReadyH.nil
          go_simp
          refine hK.out _ _ (⟨k0, k1, k2⟩) (fun hHeld2 => ?_)
          clear hK K
          try simp only [Act.put, List.setIfInBounds_toArray, List.set_cons_zero, List.set_cons_succ]
          refine wpAnyH_ready (rs := [9]) (by kernel_rfl) (by simp) ?_
          refine AllReadyH.cons (o := ⟨some 29, _, _, _, _, none⟩) rfl (fun K hK => ?_) AllReadyH.nil
          apply oq_app_any (wr := (wr.alloc (.cells #[.int .i64 2, .string y] 99)).drew) (e := 9) (cs := #[.string (⟨#[43, 32]⟩ ++ y)]) (B := w.heap.size + 3) (v := .slice ao acc.length co) (hown := HOB.out) (H := wr.heap.size + 1) (hH := World.size_alloc wr _) (hlen := lenC) (hm := lenD) (hB := hBB) (hi := Try.infoSH) (ht := Try.underlying84)
          all_goals (try (first | rfl | decide | (intro u hu; simp at hu; subst hu; rfl)))
          intro g' cap' w6 h1 h2 h3
          have HF := Kp.mk (HNX.out _ _ _ _ h1 h2)
          have n0 := (h2.block wr.heap.size (by simp; omega) (fun e => HNB.out e.symm)).trans ((Below.heap_alloc (wr.alloc (.cells #[.int .i64 2, .string y] 99)).drew _ wr.heap.size (show wr.heap.size < (wr.alloc (.cells #[.int .i64 2, .string y] 99)).heap.size from blk_lt HBX.out)).trans HBX.out)
          have n2 := (h2.block (w.heap.size + 2) (by simp; omega) (fun e => HNS.out e.symm)).trans ((Below.heap_alloc (wr.alloc (.cells #[.int .i64 2, .string y] 99)).drew _ (w.heap.size + 2) (show w.heap.size + 2 < (wr.alloc (.cells #[.int .i64 2, .string y] 99)).heap.size from blk_lt HSB.out)).trans HSB.out)
          have HS6 := Kp.mk (And.intro (blk_cell (i := 0) n0 rfl) (And.intro (blk_cell (i := 1) n0 rfl) (blk_cell (i := 2) n2 rfl)))
          clear h1 h2 h3 n0 n2
          refine hK.out _ _ (HS6.out) (fun hHeld2 => ?_)
          clear hK K
          try simp only [Act.put, List.setIfInBounds_toArray, List.set_cons_zero, List.set_cons_succ]
          refine wpAnyH_take (i := 10) (oi := ⟨some 6, .assign (.tmp 29), _, _, _, none⟩) (v := ?_) rfl (by kernel_rfl) (by kernel_rfl) (by kernel_rfl) (fun _ _ _ h => h) (Or.inl ⟨by rfl, ?_⟩) (by assumption) ?_
          rotate_left
          · intro w hSw
            try dsimp only at hSw
            go_simp
            try with_reducible rfl
          try simp only [Act.put, List.setIfInBounds_toArray, List.set_cons_zero, List.set_cons_succ]
          refine wpAnyH_done (by kernel_rfl) ?_ _
          go_wp2_with fail
          go_roundw
          case rel => exact ⟨k + 1, by omega, by go_num, HF.out⟩
          case measure => simp [intOf] <;> omega
      · have hkn : k = n := by omega
        subst hkn
        have HTK := Kp.mk (show (dfL A B).take k = dfL A B from List.take_of_length_le (by have := HN.out; omega))
        go_wp2_with fail
        go_ret
        refine ⟨_, rfl, ?_, HJ.out.b⟩
        have h9 := HJ.out.o
        rw [HTK.out] at h9
        rw [show hdL A B = (dfL A B).map hdT from rfl]
        rw [HTK.out]
        exact own_upC h9 (by omega)
end Go.Proofs.Ytnpolkpofaamlaa
