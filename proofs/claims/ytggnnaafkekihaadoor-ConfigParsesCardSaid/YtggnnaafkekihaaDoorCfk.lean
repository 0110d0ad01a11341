/- Settings (layer 13): the document's Parse (bin/mkcfk.py). -/
import Derived.Test.YtggnnaafkekihaaDoorCfj
namespace Go.Proofs.YtggnnaafkekihaaDoor
open Go.RowKit
set_option linter.unusedVariables false
set_option linter.unusedSimpArgs false

theorem Tryd.infoIC : (Tryd.prog.info? 3).map (fun i => (i.zero, i.size, i.bytes)) = some (some (.int .i64 0), 1, 8) := by kernel_rfl
def inC (l : List Int) : List Value := l.map (.int .i64 ·)
theorem inC_snoc (l : List Int) (n : Int) : inC (l ++ [n]) = inC l ++ [.int .i64 n] := by simp [inC]
/-- What the drawn regions read. -/
def RpC (gD gn : Nat) (x0 y : ByteArray) (L : List Int) (w' : World) : Prop :=
  w'.cell? ⟨gD, 0, none⟩ = some (.string x0) ∧ w'.cell? ⟨gD, 1, none⟩ = some (.string y) ∧ ∀ (j : Nat) (c : Int), L[j]? = some c → w'.cell? ⟨gn, j, none⟩ = some (.int .i64 c)
theorem RpC.next {gD gn : Nat} {x0 y : ByteArray} {L : List Int} {w w' : World} (h : RpC gD gn x0 y L w) (hb : Below w.heap.size w w') : RpC gD gn x0 y L w' :=
  ⟨(hb.cell (p := ⟨gD, 0, none⟩) (World.block_lt_of_cell? w _ h.1)).trans h.1, (hb.cell (p := ⟨gD, 1, none⟩) (World.block_lt_of_cell? w _ h.2.1)).trans h.2.1, fun j c hj => (hb.cell (p := ⟨gn, j, none⟩) (World.block_lt_of_cell? w _ (h.2.2 j c hj))).trans (h.2.2 j c hj)⟩
theorem RpC.other {gD gn b o : Nat} {x0 y : ByteArray} {L : List Int} {w : World} {v : Value} (h : RpC gD gn x0 y L w) (h1 : gD ≠ b) (h2 : gn ≠ b) : RpC gD gn x0 y L (w.setCell ⟨b, o, none⟩ v) := by
  have hk : ∀ k, k ≠ b → (w.setCell ⟨b, o, none⟩ v).heap[k]? = w.heap[k]? := fun k hk => Below.heap_setCell _ _ _ _ hk
  exact ⟨(World.cell?_of_block (hk gD h1)).trans h.1, (World.cell?_of_block (hk gD h1)).trans h.2.1, fun j c hj => (World.cell?_of_block (hk gn h2)).trans (h.2.2 j c hj)⟩
theorem own_at {w : World} {B g c n sz : Nat} {e : TypeId} {xs : List Value} (h : w.ownsRow B e sz (.slice (some ⟨g, 0, none⟩) n c) n xs) {j : Nat} {u : Value} (hj : xs[j]? = some u) : w.cell? ⟨g, j, none⟩ = some u := by
  have := h.cells (g := g) rfl j u hj
  rw [Addr.add_mid, Nat.zero_add] at this
  exact this
theorem own_g {w : World} {B c n sz : Nat} {a : Option Addr} {e : TypeId} {xs : List Value} (h : w.ownsRow B e sz (.slice a n c) n xs) (hn : 0 < n) : ∃ g, a = some ⟨g, 0, none⟩ := by
  rcases h.2 with ⟨hv, h0⟩ | ⟨g, cap, cur, hv, _⟩
  · omega
  · cases hv; exact ⟨_, rfl⟩
theorem svH_at {D : List ByteArray} {k : Nat} {x : ByteArray} (h : D[k]? = some x) : (svH D)[k]? = some (.string x) := by
  have : svH D = D.map Value.string := by
    unfold svH
    clear h
    induction D with
    | nil => rfl
    | cons a D ih => rw [List.flatMap_cons, ih]; rfl
  rw [this, List.getElem?_map, h]
  rfl
theorem pW_get {s : ByteArray} {k : Nat} (h : k < (wdK s).length) : (wdK s)[k]? = some (pW s k) := by
  unfold pW
  rw [List.getD_eq_getElem?_getD, List.getElem?_eq_getElem h]
  rfl
set_option maxRecDepth 100000 in
set_option maxHeartbeats 4000000 in
theorem rcf_parse (s : ByteArray) (w : World) (hs : s.size ≤ 1000) :
    Calls Tryd.prog 5 #[.string s] w (PRet 1073741824 s w) := by
  have HZ := Kp.mk (heap_alloc_new w (.cells #[.string ByteArray.empty, .string ByteArray.empty, .int .i64 0, .int .i64 0, .int .i64 0, .int .i64 0, .int .i64 0, .int .i64 0, .int .i64 0, .int .i64 0, .int .i64 0, .int .i64 0, .int .i64 0, .int .i64 0, .int .i64 0, .int .i64 0, .int .i64 0, .int .i64 0] 25))
  have HB0 := Kp.mk ((Below.refl w.heap.size w).alloc (Nat.le_refl _) (.cells #[.string ByteArray.empty, .string ByteArray.empty, .int .i64 0, .int .i64 0, .int .i64 0, .int .i64 0, .int .i64 0, .int .i64 0, .int .i64 0, .int .i64 0, .int .i64 0, .int .i64 0, .int .i64 0, .int .i64 0, .int .i64 0, .int .i64 0, .int .i64 0, .int .i64 0] 25))
  go_enter Tryd.func5, Tryd.ntmps5
  go_wp2_with fail
  refine (rwords13_any s _ (by omega)).mono ?_
  rintro e W0 ⟨vD, rfl, hwd, hb1⟩
  have hsa : (w.alloc (.cells #[.string ByteArray.empty, .string ByteArray.empty, .int .i64 0, .int .i64 0, .int .i64 0, .int .i64 0, .int .i64 0, .int .i64 0, .int .i64 0, .int .i64 0, .int .i64 0, .int .i64 0, .int .i64 0, .int .i64 0, .int .i64 0, .int .i64 0, .int .i64 0, .int .i64 0] 25)).heap.size = w.heap.size + 1 := World.size_alloc _ _
  have HZ1 := Kp.mk ((hb1.block _ (blk_lt HZ.out)).trans HZ.out)
  have HB1 := Kp.mk (HB0.out.trans (hb1.mono (show w.heap.size ≤ (w.alloc (.cells #[.string ByteArray.empty, .string ByteArray.empty, .int .i64 0, .int .i64 0, .int .i64 0, .int .i64 0, .int .i64 0, .int .i64 0, .int .i64 0, .int .i64 0, .int .i64 0, .int .i64 0, .int .i64 0, .int .i64 0, .int .i64 0, .int .i64 0, .int .i64 0, .int .i64 0] 25)).heap.size by rw [hsa]; omega)))
  have HWD := Kp.mk hwd
  obtain ⟨aD, cD, rfl⟩ := own_lenH hwd
  clear hwd hb1 HZ HB0 hsa
  by_cases h18 : (wdK s).length = 18
  · have HD := Kp.mk h18
    obtain ⟨gD, rfl⟩ := own_g HWD.out (by omega)
    have hgD := (HWD.out.lt gD rfl).2
    have HCD := Kp.mk (show ∀ (wr : World) (k : Nat), Below W0.heap.size W0 wr → k < 18 → wr.cell? ⟨gD, k, none⟩ = some (.string (pW s k)) from fun wr k hb hk => (hb.cell (p := ⟨gD, k, none⟩) hgD).trans (own_at HWD.out (svH_at (pW_get (by omega)))))
    have hc18 : 18 ≤ cD := by have := cf_fm HWD.out; omega
    rw [h18]
    clear h18
    have HO0 := Kp.mk (World.ownsRow_lit (base := W0.heap.size) (e := 3) (size := 1) W0 #[] 0 (Nat.le_refl _) (by unfold maxLen; omega) rfl)
    have HBI := Kp.mk ((Below.refl W0.heap.size W0).alloc (Nat.le_refl _) (.cells #[] 3))
    go_wp2_with fail
    go_loopw [5, 6] (fun nv i wr => ∃ j : Nat, 2 ≤ j ∧ j ≤ 18 ∧ i = .int .i64 j ∧ wr.ownsRow W0.heap.size 3 1 nv (j - 2) (inC ((pL 1073741824 s).take (j - 2))) ∧ Below W0.heap.size W0 wr) (fun _ i _ => 18 - (intOf i).toNat)
    case atStart => exact ⟨2, by omega, by omega, rfl, HO0.out, HBI.out⟩
    case round =>
      obtain ⟨j, hj2, hj, rfl, hown, hb⟩ := hrel
      obtain ⟨an, cn, rfl⟩ := own_lenH hown
      have HON := Kp.mk hown
      have HBW := Kp.mk hb
      have hsz := hb.size
      have HLN := Kp.mk (show (pL 1073741824 s).length = 16 by rw [pL_len, HD.out])
      by_cases hlt : j < 18
      · have q0 : (0 : Int) ≤ (j : Int) := by omega
        have q1 : (j : Int) < 18 := by omega
        have e1 := HCD.out wr j hb hlt
        have HSN := Kp.mk (show inC ((pL 1073741824 s).take (j + 1 - 2)) = inC ((pL 1073741824 s).take (j - 2)) ++ [.int .i64 (numV 10 (pW s j) 1073741824)] by
          rw [show j + 1 - 2 = (j - 2) + 1 by omega, List.take_succ_eq_append_getElem (by rw [HLN.out]; omega), inC_snoc]
          have h5 := pL_at (m := 1073741824) (s := s) (k := j - 2) (by rw [HD.out]; omega)
          rw [List.getD_eq_getElem?_getD, List.getElem?_eq_getElem (by rw [HLN.out]; omega), show j - 2 + 2 = j by omega] at h5
          rw [← h5]
          rfl)
        have hxz : (pW s j).size ≤ 1000 := Nat.le_trans (pW_size _) hs
        generalize pW s j = x at *
        obtain ⟨z, hz⟩ : ∃ z, z = j - 2 := ⟨_, rfl⟩
        rw [← hz] at HON HSN
        have HZJ := Kp.mk (show j + 1 - 2 = z + 1 by omega)
        have hzl : z ≤ 16 := by omega
        have hlen : (z + 1) * 8 ≤ 140737488355328 := by omega
        have hmx : z + 1 ≤ maxLen := by unfold maxLen; omega
        rw [← hz]
        clear hown hb hz
        go_wp2_with fail
        refine (ref_number_10_any x 1073741824 _ (by unfold maxLen; omega) (by omega) (by omega)).mono ?_
        rintro e w5 ⟨rfl, rfl⟩
        generalize numV 10 x 1073741824 = nx at *
        go_wp2_with (at_builtin; refine app_any rfl _ _ _ _ rfl Tryd.underlying39 _ _ _ Tryd.infoIC rfl (by omega) W0.heap.size _ _ _ rfl HON.out #[.int .i64 nx] rfl (fun u hu => by simp at hu; subst hu; rfl) _ rfl rfl hlen hmx hsz ?_; intro g' cap' w' h1 h2 h3; have G1 := Kp.mk h1; have G2 := Kp.mk h2; clear h1 h2 h3)
        go_roundw
        case rel =>
          refine ⟨j + 1, by omega, by omega, by go_num, ?_, HBW.out.trans (grown_bel HON.out hsz G2.out)⟩
          rw [HSN.out, HZJ.out]
          exact G1.out
        case measure => simp [intOf] <;> omega
      · obtain rfl : j = 18 := by omega
        rw [show (18 : Nat) - 2 = 16 from rfl] at *
        obtain ⟨gn, rfl⟩ := own_g hown (by omega)
        have hgn := (hown.lt gn rfl)
        have hcn : 16 ≤ cn := cf_fm hown
        obtain ⟨c0, c1, c2, c3, c4, c5, c6, c7, c8, c9, c10, c11, c12, c13, c14, c15, hL⟩ := sixteen HLN.out
        have HLL := Kp.mk hL
        have HLc := Kp.mk (show [c0, c1, c2, c3, c4, c5, c6, c7, c8, c9, c10, c11, c12, c13, c14, c15] = [c0, c1, c2, c3, c4, c5, c6, c7, c8, c9, c10, c11, c12, c13, c14, c15] from rfl)
        have HC := Kp.mk (show RpC gD gn (pW s 0) (pW s 1) [c0, c1, c2, c3, c4, c5, c6, c7, c8, c9, c10, c11, c12, c13, c14, c15] wr from
          ⟨HCD.out wr 0 hb (by omega), HCD.out wr 1 hb (by omega), fun j c hj => own_at hown (by
            rw [hL, List.take_of_length_le (by simp)]
            unfold inC
            rw [List.getElem?_map, hj]
            rfl)⟩)
        clear hown HON hb hL HLN hlt hj hj2 HO0 HBI
        have hz0 : (pW s 0).size ≤ 1000 := Nat.le_trans (pW_size _) hs
        have hz1 : (pW s 1).size ≤ 1000 := Nat.le_trans (pW_size _) hs
        have HAU := Kp.mk (show pA s = if pW s 1 = ⟨#[45]⟩ then ⟨#[]⟩ else pW s 1 from rfl)
        have HOK := Kp.mk (show pOk 1073741824 s = decide (cfT (pW s 0) (pA s) [c0, c1, c2, c3, c4, c5, c6, c7, c8, c9, c10, c11, c12, c13, c14, c15] = s) from by
          unfold pOk; rw [HD.out, HLL.out]; simp)
        have hsne : s.size ≠ 0 := fun e => by
          have := HD.out
          rw [hs_emp (by omega : ¬ 0 < s.size), wdK_emp] at this
          omega
        obtain ⟨hm1, hm2⟩ := cf_emp hsne
        have hm3 : (s.toList == []) = false := by rw [beq_eq_false_iff_ne]; exact hm2
        clear hsne
        have HX1 := Kp.mk (fun (wr : World) (hb : Below W0.heap.size W0 wr) => HCD.out wr 1 hb (by omega))
        generalize hx0 : pW s 0 = x0 at HC hz0 HOK
        generalize hy0 : pW s 1 = y at HC hz1 HAU HX1
        have HX0E := Kp.mk hx0
        clear hx0 hy0 HCD
        obtain ⟨Ls, hLs⟩ : ∃ Ls : List Int, Ls = [c0, c1, c2, c3, c4, c5, c6, c7, c8, c9, c10, c11, c12, c13, c14, c15] := ⟨_, rfl⟩
        have hCL : RpC gD gn x0 y Ls wr := by rw [hLs]; exact HC.out
        replace HC := Kp.mk hCL
        replace HLc := Kp.mk (show ∀ (j : Nat) (c : Int), [c0, c1, c2, c3, c4, c5, c6, c7, c8, c9, c10, c11, c12, c13, c14, c15][j]? = some c → Ls[j]? = some c from fun j c h => by rw [hLs]; exact h)
        clear hCL hLs
        go_upto_region 10 with fail
        go_cut [9] (fun s9 wx => ∃ b9 : Nat, s9 = .pointer (some ⟨b9, 0, none⟩) ∧ wx.heap[b9]? = some (.cells #[.string x0, .string y, .int .i64 c0, .int .i64 c1, .int .i64 c2, .int .i64 c3, .int .i64 c4, .int .i64 c5, .int .i64 c6, .int .i64 c7, .int .i64 c8, .int .i64 c9, .int .i64 c10, .int .i64 0, .int .i64 0, .int .i64 0, .int .i64 0, .int .i64 0] 25 (0, 0)) ∧ Below W0.heap.size W0 wx ∧ wr.heap.size ≤ b9 ∧ RpC gD gn x0 y Ls wx)
        case first =>
          replace HBW := Kp.mk (HBW.out.trans ((Below.refl _ wr).drew.mono hsz))
          have HC0 := Kp.mk (HC.out.next (Below.refl _ wr).drew)
          refine wp_region_held_drew (S := RpC gD gn x0 y Ls) (by kernel_rfl) (HC.out.next (Below.refl _ wr).drew) (fun hHeld => ?_)
          have hWR0 : wr.heap.size ≤ wr.drew.heap.size := Nat.le_refl _
          generalize wr.drew = WR0 at *
          refine wpAnyH_take (i := 0) (oi := ⟨some 33, .move (.tmp 4), _, _, _, none⟩) (v := ?_) rfl (by kernel_rfl) (by kernel_rfl) (by kernel_rfl) (fun _ _ _ h => h) (Or.inl ⟨by rfl, ?_⟩) (by assumption) ?_
          rotate_left
          · intro w hSw
            try dsimp only at hSw
            go_simp
            try with_reducible rfl
          try simp only [Act.put, List.setIfInBounds_toArray, List.set_cons_zero, List.set_cons_succ]
          refine wpAnyH_take (i := 1) (oi := ⟨some 34, .indexAddr 31 (.tmp 33) (.const (.int .i64 0)), _, _, _, none⟩) (v := ?_) rfl (by kernel_rfl) (by kernel_rfl) (by kernel_rfl) (fun _ _ _ h => h) (Or.inl ⟨by rfl, ?_⟩) (by assumption) ?_
          rotate_left
          · intro w hSw
            try dsimp only at hSw
            go_simp
            try with_reducible rfl
          try simp only [Act.put, List.setIfInBounds_toArray, List.set_cons_zero, List.set_cons_succ]
          refine wpAnyH_take (i := 2) (oi := ⟨some 35, .load 9 (.tmp 34), _, _, _, none⟩) (v := .string x0) rfl (by kernel_rfl) (by kernel_rfl) (by kernel_rfl) (fun _ _ _ h => h) (Or.inl ⟨by rfl, ?_⟩) (by assumption) ?_
          · intro w hSw
            have hc := hSw.1
            clear hSw
            go_simp
            try with_reducible rfl
          try simp only [Act.put, List.setIfInBounds_toArray, List.set_cons_zero, List.set_cons_succ]
          refine wpAnyH_take (i := 3) (oi := ⟨some 36, .move (.tmp 4), _, _, _, none⟩) (v := ?_) rfl (by kernel_rfl) (by kernel_rfl) (by kernel_rfl) (fun _ _ _ h => h) (Or.inl ⟨by rfl, ?_⟩) (by assumption) ?_
          rotate_left
          · intro w hSw
            try dsimp only at hSw
            go_simp
            try with_reducible rfl
          try simp only [Act.put, List.setIfInBounds_toArray, List.set_cons_zero, List.set_cons_succ]
          refine wpAnyH_take (i := 4) (oi := ⟨some 37, .indexAddr 31 (.tmp 36) (.const (.int .i64 1)), _, _, _, none⟩) (v := ?_) rfl (by kernel_rfl) (by kernel_rfl) (by kernel_rfl) (fun _ _ _ h => h) (Or.inl ⟨by rfl, ?_⟩) (by assumption) ?_
          rotate_left
          · intro w hSw
            try dsimp only at hSw
            go_simp
            try with_reducible rfl
          try simp only [Act.put, List.setIfInBounds_toArray, List.set_cons_zero, List.set_cons_succ]
          refine wpAnyH_take (i := 5) (oi := ⟨some 38, .load 9 (.tmp 37), _, _, _, none⟩) (v := .string y) rfl (by kernel_rfl) (by kernel_rfl) (by kernel_rfl) (fun _ _ _ h => h) (Or.inl ⟨by rfl, ?_⟩) (by assumption) ?_
          · intro w hSw
            have hc := hSw.2.1
            clear hSw
            go_simp
            try with_reducible rfl
          try simp only [Act.put, List.setIfInBounds_toArray, List.set_cons_zero, List.set_cons_succ]
          refine wpAnyH_take (i := 6) (oi := ⟨some 39, .move (.tmp 5), _, _, _, none⟩) (v := ?_) rfl (by kernel_rfl) (by kernel_rfl) (by kernel_rfl) (fun _ _ _ h => h) (Or.inl ⟨by rfl, ?_⟩) (by assumption) ?_
          rotate_left
          · intro w hSw
            try dsimp only at hSw
            go_simp
            try with_reducible rfl
          try simp only [Act.put, List.setIfInBounds_toArray, List.set_cons_zero, List.set_cons_succ]
          refine wpAnyH_take (i := 7) (oi := ⟨some 40, .indexAddr 39 (.tmp 39) (.const (.int .i64 0)), _, _, _, none⟩) (v := ?_) rfl (by kernel_rfl) (by kernel_rfl) (by kernel_rfl) (fun _ _ _ h => h) (Or.inl ⟨by rfl, ?_⟩) (by assumption) ?_
          rotate_left
          · intro w hSw
            try dsimp only at hSw
            go_simp
            try with_reducible rfl
          try simp only [Act.put, List.setIfInBounds_toArray, List.set_cons_zero, List.set_cons_succ]
          refine wpAnyH_take (i := 8) (oi := ⟨some 41, .load 3 (.tmp 40), _, _, _, none⟩) (v := .int .i64 c0) rfl (by kernel_rfl) (by kernel_rfl) (by kernel_rfl) (fun _ _ _ h => h) (Or.inl ⟨by rfl, ?_⟩) (by assumption) ?_
          · intro w hSw
            have hc := hSw.2.2 0 c0 (HLc.out 0 c0 rfl)
            clear hSw
            go_simp
            try with_reducible rfl
          try simp only [Act.put, List.setIfInBounds_toArray, List.set_cons_zero, List.set_cons_succ]
          refine wpAnyH_take (i := 9) (oi := ⟨some 42, .move (.tmp 5), _, _, _, none⟩) (v := ?_) rfl (by kernel_rfl) (by kernel_rfl) (by kernel_rfl) (fun _ _ _ h => h) (Or.inl ⟨by rfl, ?_⟩) (by assumption) ?_
          rotate_left
          · intro w hSw
            try dsimp only at hSw
            go_simp
            try with_reducible rfl
          try simp only [Act.put, List.setIfInBounds_toArray, List.set_cons_zero, List.set_cons_succ]
          refine wpAnyH_take (i := 10) (oi := ⟨some 43, .indexAddr 39 (.tmp 42) (.const (.int .i64 1)), _, _, _, none⟩) (v := ?_) rfl (by kernel_rfl) (by kernel_rfl) (by kernel_rfl) (fun _ _ _ h => h) (Or.inl ⟨by rfl, ?_⟩) (by assumption) ?_
          rotate_left
          · intro w hSw
            try dsimp only at hSw
            go_simp
            try with_reducible rfl
          try simp only [Act.put, List.setIfInBounds_toArray, List.set_cons_zero, List.set_cons_succ]
          refine wpAnyH_take (i := 11) (oi := ⟨some 44, .load 3 (.tmp 43), _, _, _, none⟩) (v := .int .i64 c1) rfl (by kernel_rfl) (by kernel_rfl) (by kernel_rfl) (fun _ _ _ h => h) (Or.inl ⟨by rfl, ?_⟩) (by assumption) ?_
          · intro w hSw
            have hc := hSw.2.2 1 c1 (HLc.out 1 c1 rfl)
            clear hSw
            go_simp
            try with_reducible rfl
          try simp only [Act.put, List.setIfInBounds_toArray, List.set_cons_zero, List.set_cons_succ]
          refine wpAnyH_take (i := 12) (oi := ⟨some 45, .move (.tmp 5), _, _, _, none⟩) (v := ?_) rfl (by kernel_rfl) (by kernel_rfl) (by kernel_rfl) (fun _ _ _ h => h) (Or.inl ⟨by rfl, ?_⟩) (by assumption) ?_
          rotate_left
          · intro w hSw
            try dsimp only at hSw
            go_simp
            try with_reducible rfl
          try simp only [Act.put, List.setIfInBounds_toArray, List.set_cons_zero, List.set_cons_succ]
          refine wpAnyH_take (i := 13) (oi := ⟨some 46, .indexAddr 39 (.tmp 45) (.const (.int .i64 2)), _, _, _, none⟩) (v := ?_) rfl (by kernel_rfl) (by kernel_rfl) (by kernel_rfl) (fun _ _ _ h => h) (Or.inl ⟨by rfl, ?_⟩) (by assumption) ?_
          rotate_left
          · intro w hSw
            try dsimp only at hSw
            go_simp
            try with_reducible rfl
          try simp only [Act.put, List.setIfInBounds_toArray, List.set_cons_zero, List.set_cons_succ]
          refine wpAnyH_take (i := 14) (oi := ⟨some 47, .load 3 (.tmp 46), _, _, _, none⟩) (v := .int .i64 c2) rfl (by kernel_rfl) (by kernel_rfl) (by kernel_rfl) (fun _ _ _ h => h) (Or.inl ⟨by rfl, ?_⟩) (by assumption) ?_
          · intro w hSw
            have hc := hSw.2.2 2 c2 (HLc.out 2 c2 rfl)
            clear hSw
            go_simp
            try with_reducible rfl
          try simp only [Act.put, List.setIfInBounds_toArray, List.set_cons_zero, List.set_cons_succ]
          refine wpAnyH_take (i := 15) (oi := ⟨some 48, .move (.tmp 5), _, _, _, none⟩) (v := ?_) rfl (by kernel_rfl) (by kernel_rfl) (by kernel_rfl) (fun _ _ _ h => h) (Or.inl ⟨by rfl, ?_⟩) (by assumption) ?_
          rotate_left
          · intro w hSw
            try dsimp only at hSw
            go_simp
            try with_reducible rfl
          try simp only [Act.put, List.setIfInBounds_toArray, List.set_cons_zero, List.set_cons_succ]
          refine wpAnyH_take (i := 16) (oi := ⟨some 49, .indexAddr 39 (.tmp 48) (.const (.int .i64 3)), _, _, _, none⟩) (v := ?_) rfl (by kernel_rfl) (by kernel_rfl) (by kernel_rfl) (fun _ _ _ h => h) (Or.inl ⟨by rfl, ?_⟩) (by assumption) ?_
          rotate_left
          · intro w hSw
            try dsimp only at hSw
            go_simp
            try with_reducible rfl
          try simp only [Act.put, List.setIfInBounds_toArray, List.set_cons_zero, List.set_cons_succ]
          refine wpAnyH_take (i := 17) (oi := ⟨some 50, .load 3 (.tmp 49), _, _, _, none⟩) (v := .int .i64 c3) rfl (by kernel_rfl) (by kernel_rfl) (by kernel_rfl) (fun _ _ _ h => h) (Or.inl ⟨by rfl, ?_⟩) (by assumption) ?_
          · intro w hSw
            have hc := hSw.2.2 3 c3 (HLc.out 3 c3 rfl)
            clear hSw
            go_simp
            try with_reducible rfl
          try simp only [Act.put, List.setIfInBounds_toArray, List.set_cons_zero, List.set_cons_succ]
          refine wpAnyH_take (i := 18) (oi := ⟨some 51, .move (.tmp 5), _, _, _, none⟩) (v := ?_) rfl (by kernel_rfl) (by kernel_rfl) (by kernel_rfl) (fun _ _ _ h => h) (Or.inl ⟨by rfl, ?_⟩) (by assumption) ?_
          rotate_left
          · intro w hSw
            try dsimp only at hSw
            go_simp
            try with_reducible rfl
          try simp only [Act.put, List.setIfInBounds_toArray, List.set_cons_zero, List.set_cons_succ]
          refine wpAnyH_take (i := 19) (oi := ⟨some 52, .indexAddr 39 (.tmp 51) (.const (.int .i64 4)), _, _, _, none⟩) (v := ?_) rfl (by kernel_rfl) (by kernel_rfl) (by kernel_rfl) (fun _ _ _ h => h) (Or.inl ⟨by rfl, ?_⟩) (by assumption) ?_
          rotate_left
          · intro w hSw
            try dsimp only at hSw
            go_simp
            try with_reducible rfl
          try simp only [Act.put, List.setIfInBounds_toArray, List.set_cons_zero, List.set_cons_succ]
          refine wpAnyH_take (i := 20) (oi := ⟨some 53, .load 3 (.tmp 52), _, _, _, none⟩) (v := .int .i64 c4) rfl (by kernel_rfl) (by kernel_rfl) (by kernel_rfl) (fun _ _ _ h => h) (Or.inl ⟨by rfl, ?_⟩) (by assumption) ?_
          · intro w hSw
            have hc := hSw.2.2 4 c4 (HLc.out 4 c4 rfl)
            clear hSw
            go_simp
            try with_reducible rfl
          try simp only [Act.put, List.setIfInBounds_toArray, List.set_cons_zero, List.set_cons_succ]
          refine wpAnyH_take (i := 21) (oi := ⟨some 54, .move (.tmp 5), _, _, _, none⟩) (v := ?_) rfl (by kernel_rfl) (by kernel_rfl) (by kernel_rfl) (fun _ _ _ h => h) (Or.inl ⟨by rfl, ?_⟩) (by assumption) ?_
          rotate_left
          · intro w hSw
            try dsimp only at hSw
            go_simp
            try with_reducible rfl
          try simp only [Act.put, List.setIfInBounds_toArray, List.set_cons_zero, List.set_cons_succ]
          refine wpAnyH_take (i := 22) (oi := ⟨some 55, .indexAddr 39 (.tmp 54) (.const (.int .i64 5)), _, _, _, none⟩) (v := ?_) rfl (by kernel_rfl) (by kernel_rfl) (by kernel_rfl) (fun _ _ _ h => h) (Or.inl ⟨by rfl, ?_⟩) (by assumption) ?_
          rotate_left
          · intro w hSw
            try dsimp only at hSw
            go_simp
            try with_reducible rfl
          try simp only [Act.put, List.setIfInBounds_toArray, List.set_cons_zero, List.set_cons_succ]
          refine wpAnyH_take (i := 23) (oi := ⟨some 56, .load 3 (.tmp 55), _, _, _, none⟩) (v := .int .i64 c5) rfl (by kernel_rfl) (by kernel_rfl) (by kernel_rfl) (fun _ _ _ h => h) (Or.inl ⟨by rfl, ?_⟩) (by assumption) ?_
          · intro w hSw
            have hc := hSw.2.2 5 c5 (HLc.out 5 c5 rfl)
            clear hSw
            go_simp
            try with_reducible rfl
          try simp only [Act.put, List.setIfInBounds_toArray, List.set_cons_zero, List.set_cons_succ]
          refine wpAnyH_take (i := 24) (oi := ⟨some 57, .move (.tmp 5), _, _, _, none⟩) (v := ?_) rfl (by kernel_rfl) (by kernel_rfl) (by kernel_rfl) (fun _ _ _ h => h) (Or.inl ⟨by rfl, ?_⟩) (by assumption) ?_
          rotate_left
          · intro w hSw
            try dsimp only at hSw
            go_simp
            try with_reducible rfl
          try simp only [Act.put, List.setIfInBounds_toArray, List.set_cons_zero, List.set_cons_succ]
          refine wpAnyH_take (i := 25) (oi := ⟨some 58, .indexAddr 39 (.tmp 57) (.const (.int .i64 6)), _, _, _, none⟩) (v := ?_) rfl (by kernel_rfl) (by kernel_rfl) (by kernel_rfl) (fun _ _ _ h => h) (Or.inl ⟨by rfl, ?_⟩) (by assumption) ?_
          rotate_left
          · intro w hSw
            try dsimp only at hSw
            go_simp
            try with_reducible rfl
          try simp only [Act.put, List.setIfInBounds_toArray, List.set_cons_zero, List.set_cons_succ]
          refine wpAnyH_take (i := 26) (oi := ⟨some 59, .load 3 (.tmp 58), _, _, _, none⟩) (v := .int .i64 c6) rfl (by kernel_rfl) (by kernel_rfl) (by kernel_rfl) (fun _ _ _ h => h) (Or.inl ⟨by rfl, ?_⟩) (by assumption) ?_
          · intro w hSw
            have hc := hSw.2.2 6 c6 (HLc.out 6 c6 rfl)
            clear hSw
            go_simp
            try with_reducible rfl
          try simp only [Act.put, List.setIfInBounds_toArray, List.set_cons_zero, List.set_cons_succ]
          refine wpAnyH_take (i := 27) (oi := ⟨some 60, .move (.tmp 5), _, _, _, none⟩) (v := ?_) rfl (by kernel_rfl) (by kernel_rfl) (by kernel_rfl) (fun _ _ _ h => h) (Or.inl ⟨by rfl, ?_⟩) (by assumption) ?_
          rotate_left
          · intro w hSw
            try dsimp only at hSw
            go_simp
            try with_reducible rfl
          try simp only [Act.put, List.setIfInBounds_toArray, List.set_cons_zero, List.set_cons_succ]
          refine wpAnyH_take (i := 28) (oi := ⟨some 61, .indexAddr 39 (.tmp 60) (.const (.int .i64 7)), _, _, _, none⟩) (v := ?_) rfl (by kernel_rfl) (by kernel_rfl) (by kernel_rfl) (fun _ _ _ h => h) (Or.inl ⟨by rfl, ?_⟩) (by assumption) ?_
          rotate_left
          · intro w hSw
            try dsimp only at hSw
            go_simp
            try with_reducible rfl
          try simp only [Act.put, List.setIfInBounds_toArray, List.set_cons_zero, List.set_cons_succ]
          refine wpAnyH_take (i := 29) (oi := ⟨some 62, .load 3 (.tmp 61), _, _, _, none⟩) (v := .int .i64 c7) rfl (by kernel_rfl) (by kernel_rfl) (by kernel_rfl) (fun _ _ _ h => h) (Or.inl ⟨by rfl, ?_⟩) (by assumption) ?_
          · intro w hSw
            have hc := hSw.2.2 7 c7 (HLc.out 7 c7 rfl)
            clear hSw
            go_simp
            try with_reducible rfl
          try simp only [Act.put, List.setIfInBounds_toArray, List.set_cons_zero, List.set_cons_succ]
          refine wpAnyH_take (i := 30) (oi := ⟨some 63, .move (.tmp 5), _, _, _, none⟩) (v := ?_) rfl (by kernel_rfl) (by kernel_rfl) (by kernel_rfl) (fun _ _ _ h => h) (Or.inl ⟨by rfl, ?_⟩) (by assumption) ?_
          rotate_left
          · intro w hSw
            try dsimp only at hSw
            go_simp
            try with_reducible rfl
          try simp only [Act.put, List.setIfInBounds_toArray, List.set_cons_zero, List.set_cons_succ]
          refine wpAnyH_take (i := 31) (oi := ⟨some 64, .indexAddr 39 (.tmp 63) (.const (.int .i64 8)), _, _, _, none⟩) (v := ?_) rfl (by kernel_rfl) (by kernel_rfl) (by kernel_rfl) (fun _ _ _ h => h) (Or.inl ⟨by rfl, ?_⟩) (by assumption) ?_
          rotate_left
          · intro w hSw
            try dsimp only at hSw
            go_simp
            try with_reducible rfl
          try simp only [Act.put, List.setIfInBounds_toArray, List.set_cons_zero, List.set_cons_succ]
          refine wpAnyH_take (i := 32) (oi := ⟨some 65, .load 3 (.tmp 64), _, _, _, none⟩) (v := .int .i64 c8) rfl (by kernel_rfl) (by kernel_rfl) (by kernel_rfl) (fun _ _ _ h => h) (Or.inl ⟨by rfl, ?_⟩) (by assumption) ?_
          · intro w hSw
            have hc := hSw.2.2 8 c8 (HLc.out 8 c8 rfl)
            clear hSw
            go_simp
            try with_reducible rfl
          try simp only [Act.put, List.setIfInBounds_toArray, List.set_cons_zero, List.set_cons_succ]
          refine wpAnyH_take (i := 33) (oi := ⟨some 66, .move (.tmp 5), _, _, _, none⟩) (v := ?_) rfl (by kernel_rfl) (by kernel_rfl) (by kernel_rfl) (fun _ _ _ h => h) (Or.inl ⟨by rfl, ?_⟩) (by assumption) ?_
          rotate_left
          · intro w hSw
            try dsimp only at hSw
            go_simp
            try with_reducible rfl
          try simp only [Act.put, List.setIfInBounds_toArray, List.set_cons_zero, List.set_cons_succ]
          refine wpAnyH_take (i := 34) (oi := ⟨some 67, .indexAddr 39 (.tmp 66) (.const (.int .i64 9)), _, _, _, none⟩) (v := ?_) rfl (by kernel_rfl) (by kernel_rfl) (by kernel_rfl) (fun _ _ _ h => h) (Or.inl ⟨by rfl, ?_⟩) (by assumption) ?_
          rotate_left
          · intro w hSw
            try dsimp only at hSw
            go_simp
            try with_reducible rfl
          try simp only [Act.put, List.setIfInBounds_toArray, List.set_cons_zero, List.set_cons_succ]
          refine wpAnyH_take (i := 35) (oi := ⟨some 68, .load 3 (.tmp 67), _, _, _, none⟩) (v := .int .i64 c9) rfl (by kernel_rfl) (by kernel_rfl) (by kernel_rfl) (fun _ _ _ h => h) (Or.inl ⟨by rfl, ?_⟩) (by assumption) ?_
          · intro w hSw
            have hc := hSw.2.2 9 c9 (HLc.out 9 c9 rfl)
            clear hSw
            go_simp
            try with_reducible rfl
          try simp only [Act.put, List.setIfInBounds_toArray, List.set_cons_zero, List.set_cons_succ]
          refine wpAnyH_take (i := 36) (oi := ⟨some 69, .move (.tmp 5), _, _, _, none⟩) (v := ?_) rfl (by kernel_rfl) (by kernel_rfl) (by kernel_rfl) (fun _ _ _ h => h) (Or.inl ⟨by rfl, ?_⟩) (by assumption) ?_
          rotate_left
          · intro w hSw
            try dsimp only at hSw
            go_simp
            try with_reducible rfl
          try simp only [Act.put, List.setIfInBounds_toArray, List.set_cons_zero, List.set_cons_succ]
          refine wpAnyH_take (i := 37) (oi := ⟨some 70, .indexAddr 39 (.tmp 69) (.const (.int .i64 10)), _, _, _, none⟩) (v := ?_) rfl (by kernel_rfl) (by kernel_rfl) (by kernel_rfl) (fun _ _ _ h => h) (Or.inl ⟨by rfl, ?_⟩) (by assumption) ?_
          rotate_left
          · intro w hSw
            try dsimp only at hSw
            go_simp
            try with_reducible rfl
          try simp only [Act.put, List.setIfInBounds_toArray, List.set_cons_zero, List.set_cons_succ]
          refine wpAnyH_take (i := 38) (oi := ⟨some 71, .load 3 (.tmp 70), _, _, _, none⟩) (v := .int .i64 c10) rfl (by kernel_rfl) (by kernel_rfl) (by kernel_rfl) (fun _ _ _ h => h) (Or.inl ⟨by rfl, ?_⟩) (by assumption) ?_
          · intro w hSw
            have hc := hSw.2.2 10 c10 (HLc.out 10 c10 rfl)
            clear hSw
            go_simp
            try with_reducible rfl
          try simp only [Act.put, List.setIfInBounds_toArray, List.set_cons_zero, List.set_cons_succ]
          refine wpAnyH_take (i := 39) (oi := ⟨some 72, .build 25 #[(0, .tmp 35), (1, .tmp 38), (2, .tmp 41), (3, .tmp 44), (4, .tmp 47), (5, .tmp 50), (6, .tmp 53), (7, .tmp 56), (8, .tmp 59), (9, .tmp 62), (10, .tmp 65), (11, .tmp 68), (12, .tmp 71)], _, _, _, none⟩) (v := .agg #[.string x0, .string y, .int .i64 c0, .int .i64 c1, .int .i64 c2, .int .i64 c3, .int .i64 c4, .int .i64 c5, .int .i64 c6, .int .i64 c7, .int .i64 c8, .int .i64 c9, .int .i64 c10, .int .i64 0, .int .i64 0, .int .i64 0, .int .i64 0, .int .i64 0]) rfl (by kernel_rfl) (by kernel_rfl) (by kernel_rfl) (fun _ _ _ h => h) (Or.inl ⟨by rfl, ?_⟩) (by assumption) ?_
          · intro w hSw
            clear hSw
            go_simp
            try with_reducible rfl
          try simp only [Act.put, List.setIfInBounds_toArray, List.set_cons_zero, List.set_cons_succ]
          refine wpAnyH_ready (rs := [40]) (by kernel_rfl) (by simp) ?_
          refine AllReadyH.cons (o := ⟨some 9, _, _, _, _, none⟩) rfl (fun K hK => ?_) AllReadyH.nil
          go_simp
          have HA := Kp.mk ((Below.refl _ WR0).alloc (Nat.le_refl _) (.cells #[.string ⟨#[]⟩, .string ⟨#[]⟩, .int .i64 0, .int .i64 0, .int .i64 0, .int .i64 0, .int .i64 0, .int .i64 0, .int .i64 0, .int .i64 0, .int .i64 0, .int .i64 0, .int .i64 0, .int .i64 0, .int .i64 0, .int .i64 0, .int .i64 0, .int .i64 0] 25))
          have HN := Kp.mk (heap_alloc_new WR0 (.cells #[.string ⟨#[]⟩, .string ⟨#[]⟩, .int .i64 0, .int .i64 0, .int .i64 0, .int .i64 0, .int .i64 0, .int .i64 0, .int .i64 0, .int .i64 0, .int .i64 0, .int .i64 0, .int .i64 0, .int .i64 0, .int .i64 0, .int .i64 0, .int .i64 0, .int .i64 0] 25))
          have HCA := Kp.mk (HC0.out.next HA.out)
          refine hK.out _ _ HCA.out (fun hHeld2 => ?_)
          clear hK K
          try simp only [Act.put, List.setIfInBounds_toArray, List.set_cons_zero, List.set_cons_succ]
          refine wpAnyH_ready (rs := [41]) (by kernel_rfl) (by simp) ?_
          refine AllReadyH.cons (o := ⟨none, _, _, _, _, none⟩) rfl (fun K hK => ?_) AllReadyH.nil
          refine wp_store_row _ _ _ (by rfl) _ #[.string x0, .string y, .int .i64 c0, .int .i64 c1, .int .i64 c2, .int .i64 c3, .int .i64 c4, .int .i64 c5, .int .i64 c6, .int .i64 c7, .int .i64 c8, .int .i64 c9, .int .i64 c10, .int .i64 0, .int .i64 0, .int .i64 0, .int .i64 0, .int .i64 0] (by rfl) (by rfl) _ _ HN.out (by kernel_rfl) rfl (by simp [Value.oneCell']) ?_
          simp only [Act.put]
          have HS2 := Kp.mk (below_setRow HA.out (Nat.le_refl _) #[.string x0, .string y, .int .i64 c0, .int .i64 c1, .int .i64 c2, .int .i64 c3, .int .i64 c4, .int .i64 c5, .int .i64 c6, .int .i64 c7, .int .i64 c8, .int .i64 c9, .int .i64 c10, .int .i64 0, .int .i64 0, .int .i64 0, .int .i64 0, .int .i64 0])
          have HR := Kp.mk (setRow_heap _ _ _ (#[.string x0, .string y, .int .i64 c0, .int .i64 c1, .int .i64 c2, .int .i64 c3, .int .i64 c4, .int .i64 c5, .int .i64 c6, .int .i64 c7, .int .i64 c8, .int .i64 c9, .int .i64 c10, .int .i64 0, .int .i64 0, .int .i64 0, .int .i64 0, .int .i64 0] : Array Value) _ _ HN.out)
          refine hK.out _ _ (HC0.out.next HS2.out) (fun hHeld2 => ?_)
          clear hK K
          refine wpAnyH_done (by kernel_rfl) ?_ _
          try go_wp2_with fail
          try go_meet
          exact ⟨WR0.heap.size, rfl, HR.out, HBW.out.trans (HS2.out.mono HBW.out.size), hWR0, HC0.out.next HS2.out⟩
        case rest =>
          obtain ⟨b9, rfl, hR, hB9, hL9, hC9⟩ := hcut
          have hl9 : W0.heap.size ≤ b9 := by omega
          have hgn2 := hgn.2
          have n1 : gD ≠ b9 := by omega
          have n2 : gn ≠ b9 := by omega
          have HL9 := Kp.mk hl9
          have HR9 := Kp.mk (show wc.drew.heap[b9]? = some (.cells #[.string x0, .string y, .int .i64 c0, .int .i64 c1, .int .i64 c2, .int .i64 c3, .int .i64 c4, .int .i64 c5, .int .i64 c6, .int .i64 c7, .int .i64 c8, .int .i64 c9, .int .i64 c10, .int .i64 0, .int .i64 0, .int .i64 0, .int .i64 0, .int .i64 0] 25 (0, 0)) from hR)
          have HB9 := Kp.mk (hB9.trans ((Below.refl _ wc).drew.mono hB9.size))
          have HC9 := Kp.mk (hC9.next (Below.refl _ wc).drew)
          clear hR hB9 hC9 HC HBW
          go_upto_region 11 with fail
          go_cut [9] (fun s9 wx => s9 = .pointer (some ⟨b9, 0, none⟩) ∧ wx.heap[b9]? = some (.cells #[.string (x0), .string (y), .int .i64 c0, .int .i64 c1, .int .i64 c2, .int .i64 c3, .int .i64 c4, .int .i64 c5, .int .i64 c6, .int .i64 c7, .int .i64 c8, .int .i64 c9, .int .i64 c10, .int .i64 c11, .int .i64 c12, .int .i64 c13, .int .i64 c14, .int .i64 c15] 25 (0, 0)) ∧ Below W0.heap.size W0 wx)
          case first =>
            refine wp_region_held_drew (S := RpC gD gn x0 y Ls) (by kernel_rfl) (HC9.out) (fun hHeld => ?_)
            generalize wc.drew = WC0 at *
            refine wpAnyH_take (i := 0) (oi := ⟨some 73, .move (.tmp 5), _, _, _, none⟩) (v := ?_) rfl (by kernel_rfl) (by kernel_rfl) (by kernel_rfl) (fun _ _ _ h => h) (Or.inl ⟨by rfl, ?_⟩) (by assumption) ?_
            rotate_left
            · intro w hSw
              try dsimp only at hSw
              go_simp
              try with_reducible rfl
            try simp only [Act.put, List.setIfInBounds_toArray, List.set_cons_zero, List.set_cons_succ]
            refine wpAnyH_take (i := 1) (oi := ⟨some 74, .indexAddr 39 (.tmp 73) (.const (.int .i64 11)), _, _, _, none⟩) (v := ?_) rfl (by kernel_rfl) (by kernel_rfl) (by kernel_rfl) (fun _ _ _ h => h) (Or.inl ⟨by rfl, ?_⟩) (by assumption) ?_
            rotate_left
            · intro w hSw
              try dsimp only at hSw
              go_simp
              try with_reducible rfl
            try simp only [Act.put, List.setIfInBounds_toArray, List.set_cons_zero, List.set_cons_succ]
            refine wpAnyH_take (i := 2) (oi := ⟨some 75, .load 3 (.tmp 74), _, _, _, none⟩) (v := .int .i64 c11) rfl (by kernel_rfl) (by kernel_rfl) (by kernel_rfl) (fun _ _ _ h => h) (Or.inl ⟨by rfl, ?_⟩) (by assumption) ?_
            · intro w hSw
              have hc := hSw.2.2 11 c11 (HLc.out 11 c11 rfl)
              clear hSw
              go_simp
              try with_reducible rfl
            try simp only [Act.put, List.setIfInBounds_toArray, List.set_cons_zero, List.set_cons_succ]
            refine wpAnyH_take (i := 3) (oi := ⟨some 76, .move (.tmp 5), _, _, _, none⟩) (v := ?_) rfl (by kernel_rfl) (by kernel_rfl) (by kernel_rfl) (fun _ _ _ h => h) (Or.inl ⟨by rfl, ?_⟩) (by assumption) ?_
            rotate_left
            · intro w hSw
              try dsimp only at hSw
              go_simp
              try with_reducible rfl
            try simp only [Act.put, List.setIfInBounds_toArray, List.set_cons_zero, List.set_cons_succ]
            refine wpAnyH_take (i := 4) (oi := ⟨some 77, .indexAddr 39 (.tmp 76) (.const (.int .i64 12)), _, _, _, none⟩) (v := ?_) rfl (by kernel_rfl) (by kernel_rfl) (by kernel_rfl) (fun _ _ _ h => h) (Or.inl ⟨by rfl, ?_⟩) (by assumption) ?_
            rotate_left
            · intro w hSw
              try dsimp only at hSw
              go_simp
              try with_reducible rfl
            try simp only [Act.put, List.setIfInBounds_toArray, List.set_cons_zero, List.set_cons_succ]
            refine wpAnyH_take (i := 5) (oi := ⟨some 78, .load 3 (.tmp 77), _, _, _, none⟩) (v := .int .i64 c12) rfl (by kernel_rfl) (by kernel_rfl) (by kernel_rfl) (fun _ _ _ h => h) (Or.inl ⟨by rfl, ?_⟩) (by assumption) ?_
            · intro w hSw
              have hc := hSw.2.2 12 c12 (HLc.out 12 c12 rfl)
              clear hSw
              go_simp
              try with_reducible rfl
            try simp only [Act.put, List.setIfInBounds_toArray, List.set_cons_zero, List.set_cons_succ]
            refine wpAnyH_take (i := 6) (oi := ⟨some 79, .move (.tmp 5), _, _, _, none⟩) (v := ?_) rfl (by kernel_rfl) (by kernel_rfl) (by kernel_rfl) (fun _ _ _ h => h) (Or.inl ⟨by rfl, ?_⟩) (by assumption) ?_
            rotate_left
            · intro w hSw
              try dsimp only at hSw
              go_simp
              try with_reducible rfl
            try simp only [Act.put, List.setIfInBounds_toArray, List.set_cons_zero, List.set_cons_succ]
            refine wpAnyH_take (i := 7) (oi := ⟨some 80, .indexAddr 39 (.tmp 79) (.const (.int .i64 13)), _, _, _, none⟩) (v := ?_) rfl (by kernel_rfl) (by kernel_rfl) (by kernel_rfl) (fun _ _ _ h => h) (Or.inl ⟨by rfl, ?_⟩) (by assumption) ?_
            rotate_left
            · intro w hSw
              try dsimp only at hSw
              go_simp
              try with_reducible rfl
            try simp only [Act.put, List.setIfInBounds_toArray, List.set_cons_zero, List.set_cons_succ]
            refine wpAnyH_take (i := 8) (oi := ⟨some 81, .load 3 (.tmp 80), _, _, _, none⟩) (v := .int .i64 c13) rfl (by kernel_rfl) (by kernel_rfl) (by kernel_rfl) (fun _ _ _ h => h) (Or.inl ⟨by rfl, ?_⟩) (by assumption) ?_
            · intro w hSw
              have hc := hSw.2.2 13 c13 (HLc.out 13 c13 rfl)
              clear hSw
              go_simp
              try with_reducible rfl
            try simp only [Act.put, List.setIfInBounds_toArray, List.set_cons_zero, List.set_cons_succ]
            refine wpAnyH_take (i := 9) (oi := ⟨some 82, .move (.tmp 5), _, _, _, none⟩) (v := ?_) rfl (by kernel_rfl) (by kernel_rfl) (by kernel_rfl) (fun _ _ _ h => h) (Or.inl ⟨by rfl, ?_⟩) (by assumption) ?_
            rotate_left
            · intro w hSw
              try dsimp only at hSw
              go_simp
              try with_reducible rfl
            try simp only [Act.put, List.setIfInBounds_toArray, List.set_cons_zero, List.set_cons_succ]
            refine wpAnyH_take (i := 10) (oi := ⟨some 83, .indexAddr 39 (.tmp 82) (.const (.int .i64 14)), _, _, _, none⟩) (v := ?_) rfl (by kernel_rfl) (by kernel_rfl) (by kernel_rfl) (fun _ _ _ h => h) (Or.inl ⟨by rfl, ?_⟩) (by assumption) ?_
            rotate_left
            · intro w hSw
              try dsimp only at hSw
              go_simp
              try with_reducible rfl
            try simp only [Act.put, List.setIfInBounds_toArray, List.set_cons_zero, List.set_cons_succ]
            refine wpAnyH_take (i := 11) (oi := ⟨some 84, .load 3 (.tmp 83), _, _, _, none⟩) (v := .int .i64 c14) rfl (by kernel_rfl) (by kernel_rfl) (by kernel_rfl) (fun _ _ _ h => h) (Or.inl ⟨by rfl, ?_⟩) (by assumption) ?_
            · intro w hSw
              have hc := hSw.2.2 14 c14 (HLc.out 14 c14 rfl)
              clear hSw
              go_simp
              try with_reducible rfl
            try simp only [Act.put, List.setIfInBounds_toArray, List.set_cons_zero, List.set_cons_succ]
            refine wpAnyH_take (i := 12) (oi := ⟨some 85, .move (.tmp 5), _, _, _, none⟩) (v := ?_) rfl (by kernel_rfl) (by kernel_rfl) (by kernel_rfl) (fun _ _ _ h => h) (Or.inl ⟨by rfl, ?_⟩) (by assumption) ?_
            rotate_left
            · intro w hSw
              try dsimp only at hSw
              go_simp
              try with_reducible rfl
            try simp only [Act.put, List.setIfInBounds_toArray, List.set_cons_zero, List.set_cons_succ]
            refine wpAnyH_take (i := 13) (oi := ⟨some 86, .indexAddr 39 (.tmp 85) (.const (.int .i64 15)), _, _, _, none⟩) (v := ?_) rfl (by kernel_rfl) (by kernel_rfl) (by kernel_rfl) (fun _ _ _ h => h) (Or.inl ⟨by rfl, ?_⟩) (by assumption) ?_
            rotate_left
            · intro w hSw
              try dsimp only at hSw
              go_simp
              try with_reducible rfl
            try simp only [Act.put, List.setIfInBounds_toArray, List.set_cons_zero, List.set_cons_succ]
            refine wpAnyH_take (i := 14) (oi := ⟨some 87, .load 3 (.tmp 86), _, _, _, none⟩) (v := .int .i64 c15) rfl (by kernel_rfl) (by kernel_rfl) (by kernel_rfl) (fun _ _ _ h => h) (Or.inl ⟨by rfl, ?_⟩) (by assumption) ?_
            · intro w hSw
              have hc := hSw.2.2 15 c15 (HLc.out 15 c15 rfl)
              clear hSw
              go_simp
              try with_reducible rfl
            try simp only [Act.put, List.setIfInBounds_toArray, List.set_cons_zero, List.set_cons_succ]
            refine wpAnyH_take (i := 15) (oi := ⟨some 88, .build 23 #[(0, .tmp 75), (1, .tmp 78), (2, .tmp 81), (3, .tmp 84), (4, .tmp 87)], _, _, _, none⟩) (v := ?_) rfl (by kernel_rfl) (by kernel_rfl) (by kernel_rfl) (fun _ _ _ h => h) (Or.inl ⟨by rfl, ?_⟩) (by assumption) ?_
            rotate_left
            · intro w hSw
              try dsimp only at hSw
              go_simp
              try with_reducible rfl
            try simp only [Act.put, List.setIfInBounds_toArray, List.set_cons_zero, List.set_cons_succ]
            refine wpAnyH_take (i := 16) (oi := ⟨some 89, .fieldAddr 25 (.tmp 9) 13, _, _, _, none⟩) (v := ?_) rfl (by kernel_rfl) (by kernel_rfl) (by kernel_rfl) (fun _ _ _ h => h) (Or.inl ⟨by rfl, ?_⟩) (by assumption) ?_
            rotate_left
            · intro w hSw
              try dsimp only at hSw
              go_simp
              try with_reducible rfl
            try simp only [Act.put, List.setIfInBounds_toArray, List.set_cons_zero, List.set_cons_succ]
            refine wpAnyH_ready (rs := [17]) (by kernel_rfl) (by simp) ?_
            refine AllReadyH.cons (o := ⟨none, _, _, _, _, none⟩) rfl (fun K hK => ?_) AllReadyH.nil
            have HTH := Kp.mk (show WC0.there b9 13 5 from fun j hj => ⟨by
              obtain ⟨v, hv⟩ : ∃ v, (#[.string x0, .string y, .int .i64 c0, .int .i64 c1, .int .i64 c2, .int .i64 c3, .int .i64 c4, .int .i64 c5, .int .i64 c6, .int .i64 c7, .int .i64 c8, .int .i64 c9, .int .i64 c10, .int .i64 0, .int .i64 0, .int .i64 0, .int .i64 0, .int .i64 0] : Array Value)[13 + j]? = some v := ⟨_, Array.getElem?_eq_getElem (show 13 + j < 18 by omega)⟩
              rw [blk_cell HR9.out hv]; rfl, blk_free HR9.out⟩)
            refine wp_store_mid _ _ _ (by rfl) b9 13 #[.int .i64 c11, .int .i64 c12, .int .i64 c13, .int .i64 c14, .int .i64 c15] (by rfl) (by rfl) HTH.out (by kernel_rfl) (by simp [Value.oneCell']) ?_
            simp only [Act.put]
            have HR := Kp.mk (show (WC0.setCells b9 13 [.int .i64 c11, .int .i64 c12, .int .i64 c13, .int .i64 c14, .int .i64 c15]).heap[b9]? = some (.cells #[.string (x0), .string (y), .int .i64 c0, .int .i64 c1, .int .i64 c2, .int .i64 c3, .int .i64 c4, .int .i64 c5, .int .i64 c6, .int .i64 c7, .int .i64 c8, .int .i64 c9, .int .i64 c10, .int .i64 c11, .int .i64 c12, .int .i64 c13, .int .i64 c14, .int .i64 c15] 25 (0, 0)) from
              (blk_set (blk_set (blk_set (blk_set (blk_set HR9.out _) _) _) _) _).trans rfl)
            have HS2 := Kp.mk (show Below W0.heap.size W0 (WC0.setCells b9 13 [.int .i64 c11, .int .i64 c12, .int .i64 c13, .int .i64 c14, .int .i64 c15]) from
              ((((HB9.out.setCell HL9.out _).setCell HL9.out _).setCell HL9.out _).setCell HL9.out _).setCell HL9.out _)
            refine hK.out _ _ ((((((HC9.out.other n1 n2).other n1 n2).other n1 n2).other n1 n2).other n1 n2)) (fun hHeld2 => ?_)
            clear hK K
            refine wpAnyH_done (by kernel_rfl) ?_ _
            try go_wp2_with fail
            try go_meet
            exact ⟨rfl, HR.out, HS2.out⟩
          case rest =>
            obtain ⟨rfl, hR, hBZ⟩ := hcut
            have HR0 := Kp.mk hR
            have HBZ0 := Kp.mk hBZ
            have e1 := HX1.out wc hBZ
            clear hR hBZ HR9 HB9 HC9 HX1
            by_cases hy : y = ⟨#[45]⟩
            · subst hy
              have HPA := Kp.mk (show pA s = ⟨#[]⟩ by rw [HAU.out, if_pos rfl])
              have f1 := blk_free (i := 1) HR0.out
              have g1 := blk_cell (i := 1) HR0.out rfl
              have HR := Kp.mk (show (wc.setCell ⟨b9, 1, none⟩ (.string ⟨#[]⟩)).heap[b9]? = some (.cells #[.string (x0), .string ((⟨#[]⟩ : ByteArray)), .int .i64 c0, .int .i64 c1, .int .i64 c2, .int .i64 c3, .int .i64 c4, .int .i64 c5, .int .i64 c6, .int .i64 c7, .int .i64 c8, .int .i64 c9, .int .i64 c10, .int .i64 c11, .int .i64 c12, .int .i64 c13, .int .i64 c14, .int .i64 c15] 25 (0, 0)) from (blk_set HR0.out _).trans rfl)
              have HBZ := Kp.mk (HBZ0.out.setCell (p := ⟨b9, 1, none⟩) hl9 (.string ⟨#[]⟩))
              clear HAU HR0 HBZ0
              go_upto_region 14 with fail
              clear f1 g1 e1
              repeat ((fail_if_success (with_reducible show wpList _ _ _ (Oper.mk _ (.load _ _) _ _ _ _ :: _) _ _)); go_step)
              refine BigFrame.wpList_want (by rfl) (fun K hK => ?_)
              refine wp_load_row _ _ (by rfl) b9 (by rfl) _ _ _ _ HR.out Tryd.underlying25 rfl (by kernel_rfl) ?_
              refine hK _ _ ?_
              clear hK K
              simp only [Act.put]
              go_wp2_with fail
              refine (rcf_print x0 (⟨#[]⟩ : ByteArray) c0 c1 c2 c3 c4 c5 c6 c7 c8 c9 c10 c11 c12 c13 c14 c15 _ hz0 (by first | exact hz1 | decide)).mono ?_
              rintro e w6 ⟨rfl, hb6⟩
              rw [HPA.out] at HOK
              replace HBZ := Kp.mk (HBZ.out.trans (hb6.mono HBZ.out.size))
              replace HR := Kp.mk ((hb6.block _ (blk_lt HR.out)).trans HR.out)
              clear hb6
              have HZ6 := Kp.mk ((HBZ.out.block _ (blk_lt HZ1.out)).trans HZ1.out)
              have HBW6 := Kp.mk (HB1.out.trans (HBZ.out.mono HB1.out.size))
              generalize hTx : cfT x0 (⟨#[]⟩ : ByteArray) [c0, c1, c2, c3, c4, c5, c6, c7, c8, c9, c10, c11, c12, c13, c14, c15] = Tx at *
              by_cases hT : Tx = s
              · have HK := Kp.mk (show pOk 1073741824 s = true by rw [HOK.out, decide_eq_true hT])
                clear HOK
                rw [hT]
                go_upto_region 16 with fail
                repeat ((fail_if_success (with_reducible show Oper.wp _ (Oper.mk _ (.load _ _) _ _ _ _) _ _ _ _)); go_step)
                refine wp_load_row _ _ (by rfl) b9 (by rfl) _ _ _ _ HR.out Tryd.underlying25 rfl (by kernel_rfl) ?_
                simp only [Act.put]
                repeat ((fail_if_success (with_reducible show Oper.wp _ (Oper.mk _ (.store _ _ _) _ _ _ _) _ _ _ _)); go_step)
                refine wp_store_row _ _ _ (by rfl) _ #[.string (x0), .string ((⟨#[]⟩ : ByteArray)), .int .i64 c0, .int .i64 c1, .int .i64 c2, .int .i64 c3, .int .i64 c4, .int .i64 c5, .int .i64 c6, .int .i64 c7, .int .i64 c8, .int .i64 c9, .int .i64 c10, .int .i64 c11, .int .i64 c12, .int .i64 c13, .int .i64 c14, .int .i64 c15] (by rfl) (by rfl) _ _ HZ6.out (by kernel_rfl) rfl (by simp [Value.oneCell']) ?_
                go_wp2_with fail
                refine bodyPost_ret (v := .tuple #[.agg #[.string (x0), .string ((⟨#[]⟩ : ByteArray)), .int .i64 c0, .int .i64 c1, .int .i64 c2, .int .i64 c3, .int .i64 c4, .int .i64 c5, .int .i64 c6, .int .i64 c7, .int .i64 c8, .int .i64 c9, .int .i64 c10, .int .i64 c11, .int .i64 c12, .int .i64 c13, .int .i64 c14, .int .i64 c15], .int .i64 0]) ?_ rfl (PRet.yes (below_setRow HBW6.out (Nat.le_refl _) _) HK.out HLL.out HX0E.out HPA.out)
                exact res_cfg (p := 2) (q := 3) (ty := 25) (by kernel_rfl) _ _ w.heap.size _ _ _ _ _ (by rfl) (by rfl) (setRow_heap _ _ _ _ _ _ HZ6.out) Tryd.underlying25 rfl (by kernel_rfl)
              · have HK := Kp.mk (show pOk 1073741824 s = false by rw [HOK.out, decide_eq_false hT])
                have hT2 : (Tx.toList == s.toList) = false := by
                  rw [beq_eq_false_iff_ne]
                  intro e
                  exact hT (cf_tl.1 e)
                clear HOK hTx hT
                go_upto_region 15 with fail
                repeat ((fail_if_success (with_reducible show Oper.wp _ (Oper.mk _ (.store _ _ _) _ _ _ _) _ _ _ _)); go_step)
                refine wp_store_row _ _ _ (by rfl) _ cfZ (by rfl) (by rfl) _ _ HZ6.out (by kernel_rfl) rfl (by decide +kernel) ?_
                go_wp2_with fail
                refine bodyPost_ret (v := .tuple #[.agg cfZ, .int .i64 3]) ?_ rfl (PRet.no (below_setRow HBW6.out (Nat.le_refl _) _) HK.out)
                exact res_cfg (p := 2) (q := 3) (ty := 25) (by kernel_rfl) _ _ w.heap.size _ _ _ _ _ (by rfl) (by rfl) (setRow_heap _ _ _ _ _ _ HZ6.out) Tryd.underlying25 rfl (by kernel_rfl)
            · have HPA := Kp.mk (show pA s = y by rw [HAU.out, if_neg hy])
              have hy2 : (y.toList == [45]) = false := by
                rw [show ([45] : List UInt8) = (⟨#[45]⟩ : ByteArray).toList from by rw [ByteArray.toList_eq], beq_eq_false_iff_ne]
                intro e
                exact hy (cf_tl.1 e)
              have HR := Kp.mk HR0.out
              have HBZ := Kp.mk HBZ0.out
              clear HAU HR0 HBZ0 hy
              go_upto_region 14 with fail
              clear e1 hy2
              repeat ((fail_if_success (with_reducible show wpList _ _ _ (Oper.mk _ (.load _ _) _ _ _ _ :: _) _ _)); go_step)
              refine BigFrame.wpList_want (by rfl) (fun K hK => ?_)
              refine wp_load_row _ _ (by rfl) b9 (by rfl) _ _ _ _ HR.out Tryd.underlying25 rfl (by kernel_rfl) ?_
              refine hK _ _ ?_
              clear hK K
              simp only [Act.put]
              go_wp2_with fail
              refine (rcf_print x0 y c0 c1 c2 c3 c4 c5 c6 c7 c8 c9 c10 c11 c12 c13 c14 c15 _ hz0 (by first | exact hz1 | decide)).mono ?_
              rintro e w6 ⟨rfl, hb6⟩
              rw [HPA.out] at HOK
              replace HBZ := Kp.mk (HBZ.out.trans (hb6.mono HBZ.out.size))
              replace HR := Kp.mk ((hb6.block _ (blk_lt HR.out)).trans HR.out)
              clear hb6
              have HZ6 := Kp.mk ((HBZ.out.block _ (blk_lt HZ1.out)).trans HZ1.out)
              have HBW6 := Kp.mk (HB1.out.trans (HBZ.out.mono HB1.out.size))
              generalize hTx : cfT x0 y [c0, c1, c2, c3, c4, c5, c6, c7, c8, c9, c10, c11, c12, c13, c14, c15] = Tx at *
              by_cases hT : Tx = s
              · have HK := Kp.mk (show pOk 1073741824 s = true by rw [HOK.out, decide_eq_true hT])
                clear HOK
                rw [hT]
                go_upto_region 16 with fail
                repeat ((fail_if_success (with_reducible show Oper.wp _ (Oper.mk _ (.load _ _) _ _ _ _) _ _ _ _)); go_step)
                refine wp_load_row _ _ (by rfl) b9 (by rfl) _ _ _ _ HR.out Tryd.underlying25 rfl (by kernel_rfl) ?_
                simp only [Act.put]
                repeat ((fail_if_success (with_reducible show Oper.wp _ (Oper.mk _ (.store _ _ _) _ _ _ _) _ _ _ _)); go_step)
                refine wp_store_row _ _ _ (by rfl) _ #[.string (x0), .string (y), .int .i64 c0, .int .i64 c1, .int .i64 c2, .int .i64 c3, .int .i64 c4, .int .i64 c5, .int .i64 c6, .int .i64 c7, .int .i64 c8, .int .i64 c9, .int .i64 c10, .int .i64 c11, .int .i64 c12, .int .i64 c13, .int .i64 c14, .int .i64 c15] (by rfl) (by rfl) _ _ HZ6.out (by kernel_rfl) rfl (by simp [Value.oneCell']) ?_
                go_wp2_with fail
                refine bodyPost_ret (v := .tuple #[.agg #[.string (x0), .string (y), .int .i64 c0, .int .i64 c1, .int .i64 c2, .int .i64 c3, .int .i64 c4, .int .i64 c5, .int .i64 c6, .int .i64 c7, .int .i64 c8, .int .i64 c9, .int .i64 c10, .int .i64 c11, .int .i64 c12, .int .i64 c13, .int .i64 c14, .int .i64 c15], .int .i64 0]) ?_ rfl (PRet.yes (below_setRow HBW6.out (Nat.le_refl _) _) HK.out HLL.out HX0E.out HPA.out)
                exact res_cfg (p := 2) (q := 3) (ty := 25) (by kernel_rfl) _ _ w.heap.size _ _ _ _ _ (by rfl) (by rfl) (setRow_heap _ _ _ _ _ _ HZ6.out) Tryd.underlying25 rfl (by kernel_rfl)
              · have HK := Kp.mk (show pOk 1073741824 s = false by rw [HOK.out, decide_eq_false hT])
                have hT2 : (Tx.toList == s.toList) = false := by
                  rw [beq_eq_false_iff_ne]
                  intro e
                  exact hT (cf_tl.1 e)
                clear HOK hTx hT
                go_upto_region 15 with fail
                repeat ((fail_if_success (with_reducible show Oper.wp _ (Oper.mk _ (.store _ _ _) _ _ _ _) _ _ _ _)); go_step)
                refine wp_store_row _ _ _ (by rfl) _ cfZ (by rfl) (by rfl) _ _ HZ6.out (by kernel_rfl) rfl (by decide +kernel) ?_
                go_wp2_with fail
                refine bodyPost_ret (v := .tuple #[.agg cfZ, .int .i64 3]) ?_ rfl (PRet.no (below_setRow HBW6.out (Nat.le_refl _) _) HK.out)
                exact res_cfg (p := 2) (q := 3) (ty := 25) (by kernel_rfl) _ _ w.heap.size _ _ _ _ _ (by rfl) (by rfl) (setRow_heap _ _ _ _ _ _ HZ6.out) Tryd.underlying25 rfl (by kernel_rfl)
  · have HK := Kp.mk (show pOk 1073741824 s = false by unfold pOk; rw [decide_eq_false h18]; rfl)
    have q : (((wdK s).length : Int) == 18) = false := by rw [beq_eq_false_iff_ne]; omega
    go_upto_region 3 with fail
    repeat ((fail_if_success (with_reducible show Oper.wp _ (Oper.mk _ (.store _ _ _) _ _ _ _) _ _ _ _)); go_step)
    refine wp_store_row _ _ _ (by rfl) _ cfZ (by rfl) (by rfl) _ _ HZ1.out (by kernel_rfl) rfl (by decide +kernel) ?_
    go_wp2_with fail
    refine bodyPost_ret (v := .tuple #[.agg cfZ, .int .i64 3]) ?_ rfl (PRet.no (below_setRow HB1.out (Nat.le_refl _) cfZ) HK.out)
    exact res_cfg (p := 2) (q := 3) (ty := 25) (by kernel_rfl) _ _ w.heap.size _ _ _ _ _ (by rfl) (by rfl) (setRow_heap _ _ _ cfZ _ _ HZ1.out) Tryd.underlying25 rfl (by kernel_rfl)
end Go.Proofs.YtggnnaafkekihaaDoor
