/- First lines (layer 15): a request's line read, the document's; two first lines the same. -/
import Derived.Test.YtcbfhlnnfnpkdaaGreatDoorStm
import Derived.Test.YtcbfhlnnfnpkdaaGreatDoorKeeps
import Derived.Deep.QuietTactic
import Derived.BigQuiet
namespace Go.Proofs.YtcbfhlnnfnpkdaaGreatDoor
open Go.RowKit
set_option linter.unusedVariables false
set_option linter.unusedSimpArgs false

def nvS (l : List Nat) : List Value := l.map fun (n : Nat) => Value.int .i64 (n : Int)
theorem nvS_app (l : List Nat) (n : Nat) : nvS (l ++ [n]) = nvS l ++ [.int .i64 (n : Int)] := by simp [nvS]
theorem nvS_len (l : List Nat) : (nvS l).length = l.length := by simp [nvS]
theorem Tryz.infoIS : (Tryz.prog.info? 3).map (fun i => (i.zero, i.size, i.bytes)) = some (some (.int .i64 0), 1, 8) := by kernel_rfl
theorem own_formS {w : World} {B : Nat} {e : TypeId} {sz n : Nat} {v : Value} {xs : List Value} (h : w.ownsRow B e sz v n xs) : ∃ a c, v = .slice a n c := by
  rcases h.2 with ⟨h1, h2⟩ | ⟨g, cap, cur, h1, -⟩
  · exact ⟨none, 0, by rw [h1, h2]⟩
  · exact ⟨_, cap, h1⟩
theorem own_two {w : World} {B : Nat} {e : TypeId} {a : Option Addr} {c : Nat} {x y : Nat} (h : w.ownsRow B e 1 (.slice a 2 c) 2 (nvS [x, y])) : ∃ g, a = some ⟨g, 0, none⟩ ∧ w.cell? ⟨g, 0, none⟩ = some (.int .i64 (x : Int)) ∧ w.cell? ⟨g, 1, none⟩ = some (.int .i64 (y : Int)) := by
  rcases h.2 with ⟨h1, h2⟩ | ⟨g, cap, cur, h1, -⟩
  · omega
  · cases h1
    have c0 := h.cells (g := g) rfl 0 _ rfl
    have c1 := h.cells (g := g) rfl 1 _ rfl
    rw [Addr.add_lit] at c0 c1
    exact ⟨g, rfl, c0, c1⟩
theorem grownS {B : Nat} {w w' : World} {o : Obj} {v : Value} {e : TypeId} {sz n : Nat} {xs : List Value} (hown : w.ownsRow B e sz v n xs) (hB : B ≤ w.heap.size) (h : (w.alloc o).grownBy w' v.ownBlock) : Below B w w' :=
  ((Below.refl B w).alloc hB o).grown h (by simp; omega) fun k hk => (hown.lt k hk).1
set_option maxRecDepth 100000 in
set_option maxHeartbeats 4000000 in
theorem rrequest_any (s : ByteArray) (w : World) (hs : s.size ≤ 1000000) : Calls Tryz.prog 29 #[.string s] w (ReqPost s w) := by
  have hc1 : (cut1 s).size ≤ s.size := ext_sizeS _ _ _
  have hc2 : (cut2 s).size ≤ s.size := ext_sizeS _ _ _
  have hc3 : (cut1 (cut2 s)).size ≤ (cut2 s).size := ext_sizeS _ _ _
  have hc4 : (cut2 (cut2 s)).size ≤ (cut2 s).size := ext_sizeS _ _ _
  have HK0 := Kp.mk (heap_alloc_new w (.cells #[.string ⟨#[]⟩, .string ⟨#[]⟩, .int .i64 0, .int .i64 0, .string ⟨#[]⟩, .slice none 0 0] 29))
  have HB0 := Kp.mk ((Below.refl w.heap.size w).alloc (Nat.le_refl _) (.cells #[.string ⟨#[]⟩, .string ⟨#[]⟩, .int .i64 0, .int .i64 0, .string ⟨#[]⟩, .slice none 0 0] 29))
  have HW := Kp.mk (show w.heap.size ≤ w.heap.size by omega)
  have HO0 := Kp.mk (show ((w.alloc (.cells #[.string ⟨#[]⟩, .string ⟨#[]⟩, .int .i64 0, .int .i64 0, .string ⟨#[]⟩, .slice none 0 0] 29)).alloc (.cells #[] 3)).ownsRow (w.heap.size + 1) 3 1 (.slice (some ⟨w.heap.size + 1, 0, none⟩) 0 0) 0 [] from by
    have h := World.ownsRow_made (base := w.heap.size + 1) (e := 3) (size := 1) (w.alloc (.cells #[.string ⟨#[]⟩, .string ⟨#[]⟩, .int .i64 0, .int .i64 0, .string ⟨#[]⟩, .slice none 0 0] 29)) #[] 0 (by rw [World.size_alloc]; exact Nat.le_refl _) (by unfold maxLen; omega) rfl
    rw [World.size_alloc] at h
    exact h)
  have HS1 := Kp.mk (show w.heap.size + 1 ≤ (w.alloc (.cells #[.string ⟨#[]⟩, .string ⟨#[]⟩, .int .i64 0, .int .i64 0, .string ⟨#[]⟩, .slice none 0 0] 29)).heap.size by rw [World.size_alloc]; exact Nat.le_refl _)
  go_enter Tryz.func29, Tryz.ntmps29
  go_wp2_with fail
  go_loopw [4, 5] (fun v i wr => ∃ k : Nat, k ≤ s.size ∧ i = .int .i64 k ∧ wr.ownsRow (w.heap.size + 1) 3 1 v (posA (s.data.toList.take k) 0).length (nvS (posA (s.data.toList.take k) 0)) ∧ Below w.heap.size w wr ∧ wr.heap[w.heap.size]? = some (.cells #[.string ⟨#[]⟩, .string ⟨#[]⟩, .int .i64 0, .int .i64 0, .string ⟨#[]⟩, .slice none 0 0] 29 (0, 0)) ∧ w.heap.size + 1 ≤ wr.heap.size) (fun _ i _ => s.size - (intOf i).toNat)
  case atStart => exact ⟨0, by omega, rfl, HO0.out, HB0.out.alloc (by simp) _, blk_alloc HK0.out, by simp⟩
  case round =>
    obtain ⟨k, hk, rfl, hown, hb, hbk, hsz⟩ := hrel
    obtain ⟨a, cp, rfl⟩ := own_formS hown
    have hle := pos_le s k
    have HO := Kp.mk hown
    have HB5 := Kp.mk hb
    have HD0 := Kp.mk hbk
    clear hown hb hbk
    by_cases hlt : k < s.size
    · have q1 : (k : Int) < (s.size : Int) := by omega
      have HT := Kp.mk (pos_take hlt)
      by_cases h32 : bt s k = 32
      · have t1 : ((s[k].toNat : Int) == 32) = true := by rw [bt_at s k hlt, beq_iff_eq]; omega
        have HT2 := Kp.mk (show posA (s.data.toList.take (k + 1)) 0 = posA (s.data.toList.take k) 0 ++ [k] by rw [HT.out, if_pos h32])
        generalize posA (s.data.toList.take k) 0 = P at *
        have hlen : (P.length + 1) * 8 ≤ 140737488355328 := by omega
        have hmx : P.length + 1 ≤ maxLen := by unfold maxLen; omega
        clear h32
        go_wp2_with (at_builtin; refine app_any rfl _ _ _ _ rfl Tryz.underlying93 _ _ _ Tryz.infoIS rfl (by omega) (w.heap.size + 1) _ _ _ rfl HO.out #[.int .i64 (k : Int)] rfl (fun u hu => by simp at hu; subst hu; rfl) _ rfl rfl hlen hmx hsz ?_; intro g' cap' w' h1 h2 h3; have H1 := Kp.mk h1; have H2 := Kp.mk h2; clear h1 h2 h3)
        go_roundw
        case rel =>
          have hbl := grownS HO.out hsz H2.out
          refine ⟨k + 1, by omega, by go_num, ?_, HB5.out.trans (hbl.mono (by omega)), (hbl.block _ (by omega)).trans HD0.out, Nat.le_trans hsz hbl.size⟩
          rw [HT2.out, List.length_append, nvS_app]
          exact H1.out
        case measure => simp [intOf]; omega
      · have t1 : ((s[k].toNat : Int) == 32) = false := by rw [bt_at s k hlt, beq_eq_false_iff_ne]; omega
        have HT2 := Kp.mk (show posA (s.data.toList.take (k + 1)) 0 = posA (s.data.toList.take k) 0 by rw [HT.out, if_neg h32, List.append_nil])
        clear h32
        go_wp2_with fail
        go_roundw
        case rel => exact ⟨k + 1, by omega, by go_num, by rw [HT2.out]; exact HO.out, HB5.out, HD0.out, hsz⟩
        case measure => simp [intOf]; omega
    · have hks : k = s.size := by omega
      subst hks
      by_cases h2 : cnt32 s = 2
      · obtain ⟨x, y, hp, hxy, hy, -, -, -, -, e1, e2, e3⟩ := pos_two h2
        have hO := HO.out
        have hPA := (pos_all s).trans hp
        have hLN : (posA (s.data.toList.take s.size) 0).length = 2 := by rw [hPA]; rfl
        rw [hLN] at hO ⊢
        rw [hPA] at hO
        obtain ⟨g, rfl, c0, c1⟩ := own_two hO
        clear hO HO hPA hLN hp hle
        have E1 := Kp.mk e1
        have E2 := Kp.mk e2
        have E3 := Kp.mk e3
        clear e1 e2 e3
        have i0 : (0 : Int) ≤ (x : Int) := by omega
        have i1 : (x : Int) ≤ (s.size : Int) := by omega
        have i2 : (0 : Int) ≤ (x : Int) + 1 := by omega
        have i3 : (x : Int) + 1 ≤ (y : Int) := by omega
        have i4 : (y : Int) ≤ (s.size : Int) := by omega
        have i5 : (0 : Int) ≤ (y : Int) + 1 := by omega
        have i6 : (y : Int) + 1 ≤ (s.size : Int) := by omega
        have i7 : (0 : Int) ≤ (y : Int) := by omega
        have w1 : IntKind.i64.wrap ((x : Int) + 1) = (x : Int) + 1 := wrap_idU (by omega) (by omega)
        have w2 : IntKind.i64.wrap ((y : Int) + 1) = (y : Int) + 1 := wrap_idU (by omega) (by omega)
        have n1 : ((x : Int) + 1).toNat = x + 1 := by omega
        have n2 : ((y : Int) + 1).toNat = y + 1 := by omega
        have HRC := Kp.mk (req_cases s)
        have HC2 := Kp.mk h2
        clear h2
        go_wp2_with fail
        go_quiet (fail)
        go_wp2_with fail
        try go_simp
        rw [E1.out, E2.out, E3.out]
        have HD1 := Kp.mk (blk_drewN HD0.out nq)
        have HB6 := Kp.mk (HB5.out.trans ((gdrewN wr nq).mono HB5.out.size))
        clear HD0 HB5 c0 c1
        have HD0 := HD1
        have HB5 := HB6
        clear HD1 HB6
        refine (ref_token_any _ _ (by unfold maxLen; omega)).mono ?_
        rintro e w1 ⟨rfl, rfl⟩
        have g0 := blk_cell (i := 0) HD0.out rfl
        have g1 := blk_cell (i := 1) HD0.out rfl
        have g2 := blk_cell (i := 2) HD0.out rfl
        have g3 := blk_cell (i := 3) HD0.out rfl
        have g4 := blk_cell (i := 4) HD0.out rfl
        have g5 := blk_cell (i := 5) HD0.out rfl
        have f0 := blk_free (i := 0) HD0.out
        have f1 := blk_free (i := 1) HD0.out
        have f2 := blk_free (i := 2) HD0.out
        have f3 := blk_free (i := 3) HD0.out
        have f4 := blk_free (i := 4) HD0.out
        have f5 := blk_free (i := 5) HD0.out
        clear i0 i1 i2 i3 i4 i5 i6 i7 w1 w2 n1 n2 E1 E2 E3
        rcases HRC.out with ⟨h1, -⟩ | ⟨h1, h2, hx⟩ | ⟨h1, h2, h3, hx⟩ | ⟨h1, h2, h3, h4, hx⟩ | ⟨h1, h2, h3, h4, hx⟩
        · exact absurd HC2.out h1
        · have HX := Kp.mk hx
          rw [h2]
          clear hx HRC
          go_wp2_with fail
          obtain ⟨hre, hrb⟩ := res6_end HD0.out HB5.out HW.out (.string ⟨#[]⟩) (.string ⟨#[]⟩) (.int .i64 0) (.int .i64 0) (.string ⟨#[]⟩) (.slice none 0 0)
          have r0 := blk_cell (i := 0) hre rfl
          have r1 := blk_cell (i := 1) hre rfl
          have r2 := blk_cell (i := 2) hre rfl
          have r3 := blk_cell (i := 3) hre rfl
          have r4 := blk_cell (i := 4) hre rfl
          have r5 := blk_cell (i := 5) hre rfl
          exact bodyPost_ret (v := .tuple #[.agg #[.string ⟨#[]⟩, .string ⟨#[]⟩, .int .i64 0, .int .i64 0, .string ⟨#[]⟩, .slice none 0 0], .int .i64 6]) (by simp [results, Tryz.results29, go_sem, r0, r1, r2, r3, r4, r5]) rfl ⟨by rw [HX.out.1, HX.out.2.1, HX.out.2.2.1, HX.out.2.2.2], hrb⟩
        · have HX := Kp.mk hx
          rw [h2]
          clear hx HRC
          go_wp2_with fail
          refine (ref_visible_any _ _ (by unfold maxLen; omega)).mono ?_
          rintro e w1 ⟨rfl, rfl⟩
          rw [h3]
          go_wp2_with fail
          obtain ⟨hre, hrb⟩ := res6_end HD0.out HB5.out HW.out (.string ⟨#[]⟩) (.string ⟨#[]⟩) (.int .i64 0) (.int .i64 0) (.string ⟨#[]⟩) (.slice none 0 0)
          have r0 := blk_cell (i := 0) hre rfl
          have r1 := blk_cell (i := 1) hre rfl
          have r2 := blk_cell (i := 2) hre rfl
          have r3 := blk_cell (i := 3) hre rfl
          have r4 := blk_cell (i := 4) hre rfl
          have r5 := blk_cell (i := 5) hre rfl
          exact bodyPost_ret (v := .tuple #[.agg #[.string ⟨#[]⟩, .string ⟨#[]⟩, .int .i64 0, .int .i64 0, .string ⟨#[]⟩, .slice none 0 0], .int .i64 11]) (by simp [results, Tryz.results29, go_sem, r0, r1, r2, r3, r4, r5]) rfl ⟨by rw [HX.out.1, HX.out.2.1, HX.out.2.2.1, HX.out.2.2.2], hrb⟩
        · have HX := Kp.mk hx
          rw [h2]
          have q : (minE (cut2 (cut2 s)) != 0) = true := by rw [bne_iff_ne]; exact h4
          clear hx HRC h4
          go_wp2_with fail
          refine (ref_visible_any _ _ (by unfold maxLen; omega)).mono ?_
          rintro e w1 ⟨rfl, rfl⟩
          rw [h3]
          go_wp2_with fail
          refine (rminor_any _ _ (by omega)).mono ?_
          rintro e w1 ⟨rfl, rfl⟩
          go_wp2_with fail
          obtain ⟨hre, hrb⟩ := res6_end HD0.out HB5.out HW.out (.string ⟨#[]⟩) (.string ⟨#[]⟩) (.int .i64 0) (.int .i64 0) (.string ⟨#[]⟩) (.slice none 0 0)
          have r0 := blk_cell (i := 0) hre rfl
          have r1 := blk_cell (i := 1) hre rfl
          have r2 := blk_cell (i := 2) hre rfl
          have r3 := blk_cell (i := 3) hre rfl
          have r4 := blk_cell (i := 4) hre rfl
          have r5 := blk_cell (i := 5) hre rfl
          exact bodyPost_ret (v := .tuple #[.agg #[.string ⟨#[]⟩, .string ⟨#[]⟩, .int .i64 0, .int .i64 0, .string ⟨#[]⟩, .slice none 0 0], .int .i64 (minE (cut2 (cut2 s)))]) (by simp [results, Tryz.results29, go_sem, r0, r1, r2, r3, r4, r5]) rfl ⟨by rw [HX.out.1, HX.out.2.1, HX.out.2.2.1, HX.out.2.2.2], hrb⟩
        · have HX := Kp.mk hx
          rw [h2]
          have H4 := Kp.mk h4
          clear hx HRC h4
          go_wp2_with fail
          refine (ref_visible_any _ _ (by unfold maxLen; omega)).mono ?_
          rintro e w1 ⟨rfl, rfl⟩
          rw [h3]
          go_wp2_with fail
          refine (rminor_any _ _ (by omega)).mono ?_
          rintro e w1 ⟨rfl, rfl⟩
          rw [H4.out]
          go_wp2_with fail
          obtain ⟨hre, hrb⟩ := res6_end HD0.out HB5.out HW.out (.string (cut1 s)) (.string (cut1 (cut2 s))) (.int .i64 (minN (cut2 (cut2 s)))) (.int .i64 0) (.string ⟨#[]⟩) (.slice none 0 0)
          have r0 := blk_cell (i := 0) hre rfl
          have r1 := blk_cell (i := 1) hre rfl
          have r2 := blk_cell (i := 2) hre rfl
          have r3 := blk_cell (i := 3) hre rfl
          have r4 := blk_cell (i := 4) hre rfl
          have r5 := blk_cell (i := 5) hre rfl
          exact bodyPost_ret (v := .tuple #[.agg #[.string (cut1 s), .string (cut1 (cut2 s)), .int .i64 (minN (cut2 (cut2 s))), .int .i64 0, .string ⟨#[]⟩, .slice none 0 0], .int .i64 0]) (by simp [results, Tryz.results29, go_sem, r0, r1, r2, r3, r4, r5]) rfl ⟨by rw [HX.out.1, HX.out.2.1, HX.out.2.2.1, HX.out.2.2.2], hrb⟩
      · have hLN : (posA (s.data.toList.take s.size) 0).length = cnt32 s := by rw [pos_all, posL_len]
        rw [hLN]
        have q3 : ((cnt32 s : Int) != 2) = true := by rw [bne_iff_ne]; omega
        obtain ⟨e0, e1, e2, e3⟩ := req_bad (s := s) (e := 3) (by unfold reqE; rw [if_pos h2]) (by decide)
        have HX := Kp.mk (And.intro e0 (And.intro e1 (And.intro e2 e3)))
        clear e0 e1 e2 e3 h2
        have g0 := blk_cell (i := 0) HD0.out rfl
        have g1 := blk_cell (i := 1) HD0.out rfl
        have g2 := blk_cell (i := 2) HD0.out rfl
        have g3 := blk_cell (i := 3) HD0.out rfl
        have g4 := blk_cell (i := 4) HD0.out rfl
        have g5 := blk_cell (i := 5) HD0.out rfl
        have f0 := blk_free (i := 0) HD0.out
        have f1 := blk_free (i := 1) HD0.out
        have f2 := blk_free (i := 2) HD0.out
        have f3 := blk_free (i := 3) HD0.out
        have f4 := blk_free (i := 4) HD0.out
        have f5 := blk_free (i := 5) HD0.out
        clear HO hLN hle
        go_wp2_with fail
        obtain ⟨hre, hrb⟩ := res6_end HD0.out HB5.out HW.out (.string ⟨#[]⟩) (.string ⟨#[]⟩) (.int .i64 0) (.int .i64 0) (.string ⟨#[]⟩) (.slice none 0 0)
        have r0 := blk_cell (i := 0) hre rfl
        have r1 := blk_cell (i := 1) hre rfl
        have r2 := blk_cell (i := 2) hre rfl
        have r3 := blk_cell (i := 3) hre rfl
        have r4 := blk_cell (i := 4) hre rfl
        have r5 := blk_cell (i := 5) hre rfl
        exact bodyPost_ret (v := .tuple #[.agg #[.string ⟨#[]⟩, .string ⟨#[]⟩, .int .i64 0, .int .i64 0, .string ⟨#[]⟩, .slice none 0 0], .int .i64 3]) (by simp [results, Tryz.results29, go_sem, r0, r1, r2, r3, r4, r5]) rfl ⟨by rw [HX.out.1, HX.out.2.1, HX.out.2.2.1, HX.out.2.2.2], hrb⟩
end Go.Proofs.YtcbfhlnnfnpkdaaGreatDoor
