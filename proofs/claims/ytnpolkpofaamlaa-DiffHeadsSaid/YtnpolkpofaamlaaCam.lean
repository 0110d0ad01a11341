/- How heads differ (layer 51): a head's lines, the document's (bin/mkcam.py). -/
import Derived.Test.YtnpolkpofaamlaaCal
import Derived.Test.YtnpolkpofaamlaaCak
namespace Go.Proofs.Ytnpolkpofaamlaa
open Go.RowKit
set_option linter.unusedVariables false
set_option linter.unusedSimpArgs false

/-- What stands when the loop begins. -/
structure TZ (L0 : ByteArray) (F : List Fld) (w : World) (ov fv : Value) (w' : World) : Prop where
  o : w'.ownsRow w.heap.size 9 1 ov 1 [.string L0]
  f : w'.ownsRow w.heap.size 87 2 fv F.length (fvH F)
  b : Below w.heap.size w w'
set_option maxRecDepth 100000 in
set_option maxHeartbeats 1000000 in
theorem rtext51_any (m t : ByteArray) (mi st : Int) (r : ByteArray) (u : Value) (l : List Fld) (w : World) (hu : RdF w u l) (hz : ∀ p ∈ l, FldSm p) (hl : l.length ≤ 100) (hs : ∀ f ∈ cFld l, f.1.size ≤ 1000000 ∧ f.2.size ≤ 1000000) (hn : (cFld l).length ≤ 10000)
    (hm : m.size ≤ 1000000) (ht : t.size ≤ 1000000) (hr : r.size ≤ 1000000) (h0 : -9223372036854775808 ≤ st) (h1 : st ≤ 9223372036854775807) :
    Calls Try.prog 96 #[.agg #[.string m, .string t, .int .i64 mi, .int .i64 st, .string r, u]] w (RetS (headT m t mi st r l) w) := by
  have HU := Kp.mk hu
  obtain ⟨fa, fc, rfl, -, -, -⟩ := hu
  have HX := Kp.mk (HBx.new m t mi st r fa l.length fc w)
  have HLI := Kp.mk (fun W => rline15_any m t mi st r fa l.length fc W hm ht hr h0 h1)
  have HFI := Kp.mk (fun W (hb : Below w.heap.size w W) => by have h9 := rfields_any _ l W (HU.out.below hb) hz hl; rw [rFld_eq] at h9; exact h9)
  have HS := Kp.mk hs
  have HR := Kp.mk (show headT m t mi st r l = lineH m t mi st r :: (cFld l).map lnF from rfl)
  generalize headT m t mi st r l = R at *
  generalize lineH m t mi st r = L0 at *
  generalize cFld l = F at *
  have p0 := blk_cell (i := 0) HX.out.box rfl
  have p1 := blk_cell (i := 1) HX.out.box rfl
  have p2 := blk_cell (i := 2) HX.out.box rfl
  have p3 := blk_cell (i := 3) HX.out.box rfl
  have p4 := blk_cell (i := 4) HX.out.box rfl
  have p5 := blk_cell (i := 5) HX.out.box rfl
  clear hs hm ht hr h0 h1 hz
  go_enter Try.func96, Try.ntmps96
  go_upto_region 1 with fail
  go_cut [3, 4] (fun ov fv wx => ∃ a c, ov = .slice a 1 c ∧ (∃ a2 c2, fv = .slice a2 F.length c2) ∧ TZ L0 F w ov fv wx)
  case first =>
    refine wp_region_held_drew (S := fun w' => w'.cell? ⟨w.heap.size, 5, none⟩ = some (.slice fa l.length fc)) (by kernel_rfl) (show (w.alloc (.cells #[.string m, .string t, .int .i64 mi, .int .i64 st, .string r, .slice fa l.length fc] 50)).drew.cell? ⟨w.heap.size, 5, none⟩ = some (.slice fa l.length fc) from p5) (fun hHeld => ?_)
    refine wpAnyH_take (i := 3) (oi := ⟨some 9, .fieldAddr 50 (.tmp 1) 5, _, _, _, none⟩) (v := ?_) rfl (by kernel_rfl) (by kernel_rfl) (by kernel_rfl) (fun _ _ _ h => h) (Or.inl ⟨by rfl, ?_⟩) (by assumption) ?_
    rotate_left
    · intro w hSw
      try dsimp only at hSw
      go_simp
      try with_reducible rfl
    try simp only [Act.put, List.setIfInBounds_toArray, List.set_cons_zero, List.set_cons_succ]
    refine wpAnyH_take (i := 4) (oi := ⟨some 10, .load 46 (.tmp 9), _, _, _, none⟩) (v := ?_) rfl (by kernel_rfl) (by kernel_rfl) (by kernel_rfl) (fun _ _ _ h => h) (Or.inl ⟨by rfl, ?_⟩) (by assumption) ?_
    rotate_left
    · intro w hSw
      try dsimp only at hSw
      go_simp
      try with_reducible rfl
    try simp only [Act.put, List.setIfInBounds_toArray, List.set_cons_zero, List.set_cons_succ]
    refine wpAnyH_ready (rs := [0]) (by kernel_rfl) (by simp) ?_
    refine AllReadyH.cons (o := ⟨some 6, _, _, _, _, none⟩) rfl (fun K hK => ?_) AllReadyH.nil
    go_simp
    refine hK.out _ _ (p5) (fun hHeld2 => ?_)
    clear hK K
    try simp only [Act.put, List.setIfInBounds_toArray, List.set_cons_zero, List.set_cons_succ]
    refine wpAnyH_ready (rs := [1]) (by kernel_rfl) (by simp) ?_
    refine AllReadyH.cons (o := ⟨some 7, _, _, _, _, none⟩) rfl (fun K hK => ?_) AllReadyH.nil
    go_simp
    (go_at_call 118; refine (HLI.out _).mono ?_; rintro e w1 ⟨rfl, hb1⟩)
    have HX1 := Kp.mk ((HX.out.below (gdrew1 _)).below hb1)
    have hbz := HX1.out.bel.size
    clear hb1
    try go_wp2_with fail
    refine hK.out _ _ (blk_cell (i := 5) HX1.out.box rfl) (fun hHeld2 => ?_)
    clear hK K
    try simp only [Act.put, List.setIfInBounds_toArray, List.set_cons_zero, List.set_cons_succ]
    refine wpAnyH_ready (rs := [2, 5]) (by kernel_rfl) (by simp) ?_
    refine AllReadyH.cons (o := ⟨some 8, _, _, _, _, none⟩) rfl (fun K hK => ?_) (AllReadyH.cons (o := ⟨some 11, _, _, _, _, none⟩) rfl (fun K hK => ?_) AllReadyH.nil)
    · go_simp
      have HA := (Below.refl w1.heap.size w1).alloc (Nat.le_refl _) (.cells #[.string L0] 9)
      have HX2 := Kp.mk (HX1.out.below HA)
      have HO := Kp.mk (show (w1.alloc (.cells #[.string L0] 9)).ownsRow w.heap.size 9 1 (.slice (some ⟨w1.heap.size, 0, none⟩) 1 1) 1 [.string L0] from
        World.ownsRow_lit (base := w.heap.size) (e := 9) (size := 1) w1 #[.string L0] 1 hbz (by unfold maxLen; omega) rfl)
      refine hK.out _ _ (blk_cell (i := 5) HX2.out.box rfl) (fun hHeld2 => ?_)
      clear hK K
      try simp only [Act.put, List.setIfInBounds_toArray, List.set_cons_zero, List.set_cons_succ]
      refine wpAnyH_ready (rs := [5]) (by kernel_rfl) (by simp) ?_
      refine AllReadyH.cons (o := ⟨some 11, _, _, _, _, none⟩) rfl (fun K hK => ?_) AllReadyH.nil
      go_simp
      (go_at_call 49; refine (HFI.out _ HX2.out.bel).mono ?_; rintro e w2 ⟨fv, rfl, ho, hb⟩)
      have HX3 := Kp.mk (HX2.out.below hb)
      have HZ := Kp.mk (show TZ L0 F w (.slice (some ⟨w1.heap.size, 0, none⟩) 1 1) fv w2 from ⟨own_bel HO.out hb, own_upC ho HX2.out.bel.size, HX3.out.bel⟩)
      obtain ⟨af, cf, rfl⟩ := own_lenH ho
      clear ho hb
      try go_wp2_with fail
      refine hK.out _ _ (blk_cell (i := 5) HX3.out.box rfl) (fun hHeld2 => ?_)
      clear hK K
      try simp only [Act.put, List.setIfInBounds_toArray, List.set_cons_zero, List.set_cons_succ]
      refine wpAnyH_take (i := 6) (oi := ⟨some 3, .assign (.tmp 8), _, _, _, none⟩) (v := ?_) rfl (by kernel_rfl) (by kernel_rfl) (by kernel_rfl) (fun _ _ _ h => h) (Or.inl ⟨by rfl, ?_⟩) (by assumption) ?_
      rotate_left
      · intro w hSw
        try dsimp only at hSw
        go_simp
        try with_reducible rfl
      try simp only [Act.put, List.setIfInBounds_toArray, List.set_cons_zero, List.set_cons_succ]
      refine wpAnyH_take (i := 7) (oi := ⟨some 4, .assign (.tmp 11), _, _, _, none⟩) (v := ?_) rfl (by kernel_rfl) (by kernel_rfl) (by kernel_rfl) (fun _ _ _ h => h) (Or.inl ⟨by rfl, ?_⟩) (by assumption) ?_
      rotate_left
      · intro w hSw
        try dsimp only at hSw
        go_simp
        try with_reducible rfl
      try simp only [Act.put, List.setIfInBounds_toArray, List.set_cons_zero, List.set_cons_succ]
      refine wpAnyH_done (by kernel_rfl) ?_ _
      go_wp2_with fail
      go_meet
      exact ⟨_, _, rfl, ⟨_, _, rfl⟩, HZ.out⟩
    · go_simp
      (go_at_call 49; refine (HFI.out _ HX1.out.bel).mono ?_; rintro e w2 ⟨fv, rfl, ho, hb⟩)
      have HX2 := Kp.mk (HX1.out.below hb)
      have HFV := Kp.mk (own_upC ho HX1.out.bel.size)
      obtain ⟨af, cf, rfl⟩ := own_lenH ho
      clear ho hb
      try go_wp2_with fail
      refine hK.out _ _ (blk_cell (i := 5) HX2.out.box rfl) (fun hHeld2 => ?_)
      clear hK K
      try simp only [Act.put, List.setIfInBounds_toArray, List.set_cons_zero, List.set_cons_succ]
      refine wpAnyH_ready (rs := [2]) (by kernel_rfl) (by simp) ?_
      refine AllReadyH.cons (o := ⟨some 8, _, _, _, _, none⟩) rfl (fun K hK => ?_) AllReadyH.nil
      go_simp
      have HA := (Below.refl w2.heap.size w2).alloc (Nat.le_refl _) (.cells #[.string L0] 9)
      have HX3 := Kp.mk (HX2.out.below HA)
      have hbz2 := HX2.out.bel.size
      have HZ := Kp.mk (show TZ L0 F w (.slice (some ⟨w2.heap.size, 0, none⟩) 1 1) (.slice af F.length cf) (w2.alloc (.cells #[.string L0] 9)) from
        ⟨World.ownsRow_lit (base := w.heap.size) (e := 9) (size := 1) w2 #[.string L0] 1 hbz2 (by unfold maxLen; omega) rfl, own_bel HFV.out HA, HX3.out.bel⟩)
      refine hK.out _ _ (blk_cell (i := 5) HX3.out.box rfl) (fun hHeld2 => ?_)
      clear hK K
      try simp only [Act.put, List.setIfInBounds_toArray, List.set_cons_zero, List.set_cons_succ]
      refine wpAnyH_take (i := 6) (oi := ⟨some 3, .assign (.tmp 8), _, _, _, none⟩) (v := ?_) rfl (by kernel_rfl) (by kernel_rfl) (by kernel_rfl) (fun _ _ _ h => h) (Or.inl ⟨by rfl, ?_⟩) (by assumption) ?_
      rotate_left
      · intro w hSw
        try dsimp only at hSw
        go_simp
        try with_reducible rfl
      try simp only [Act.put, List.setIfInBounds_toArray, List.set_cons_zero, List.set_cons_succ]
      refine wpAnyH_take (i := 7) (oi := ⟨some 4, .assign (.tmp 11), _, _, _, none⟩) (v := ?_) rfl (by kernel_rfl) (by kernel_rfl) (by kernel_rfl) (fun _ _ _ h => h) (Or.inl ⟨by rfl, ?_⟩) (by assumption) ?_
      rotate_left
      · intro w hSw
        try dsimp only at hSw
        go_simp
        try with_reducible rfl
      try simp only [Act.put, List.setIfInBounds_toArray, List.set_cons_zero, List.set_cons_succ]
      refine wpAnyH_done (by kernel_rfl) ?_ _
      go_wp2_with fail
      go_meet
      exact ⟨_, _, rfl, ⟨_, _, rfl⟩, HZ.out⟩
  case rest =>
    obtain ⟨ao, co, rfl, ⟨af, cf, rfl⟩, hZ⟩ := hcut
    have HZ := Kp.mk hZ
    clear hZ p0 p1 p2 p3 p4 p5
    generalize hnn : F.length = n at *
    have HN := Kp.mk hnn
    have HFZ := Kp.mk (show wc.ownsRow w.heap.size 87 2 (.slice af n cf) n (fvH F) from by rw [← hnn]; have h9 := HZ.out.f; rw [hnn] at h9 ⊢; exact h9)
    clear hnn
    go_wp2_with fail
    go_loopw [3, 5] (fun ov i wr => ∃ k : Nat, k ≤ n ∧ i = .int .i64 k ∧ wr.ownsRow w.heap.size 9 1 ov (L0 :: (F.take k).map lnF).length (svH (L0 :: (F.take k).map lnF)) ∧ wr.ownsRow w.heap.size 87 2 (.slice af n cf) n (fvH F) ∧ Below w.heap.size w wr) (fun _ i _ => n - (intOf i).toNat)
    case atStart => exact ⟨0, Nat.zero_le _, rfl, HZ.out.o, HFZ.out, HZ.out.b⟩
    case round =>
      obtain ⟨k, hk, rfl, ho, hf, hb⟩ := hrel
      have HOW := Kp.mk ho
      have HFW := Kp.mk hf
      have HBW := Kp.mk hb
      obtain ⟨ao, co, rfl⟩ := own_lenH ho
      have hal : (L0 :: (F.take k).map lnF).length ≤ 10001 := by
        rw [List.length_cons, List.length_map, List.length_take]
        omega
      clear ho hf hb
      by_cases hlt : k < n
      · have hkl : k < F.length := by have := HN.out; omega
        have hrd : RdF wr (.slice af n cf) F := rdf_own (by rw [HN.out]; exact HFW.out)
        obtain ⟨g, o, rfl, hgl, d⟩ := rdf_cells hrd (by omega)
        obtain ⟨c1, c2⟩ := d k hkl
        have HSM := Kp.mk (HS.out _ (List.getElem_mem hkl))
        have HST := Kp.mk (show L0 :: (F.take (k + 1)).map lnF = (L0 :: (F.take k).map lnF) ++ [lnF F[k]] by rw [List.take_succ_eq_append_getElem hkl, List.map_append]; rfl)
        have q1 : (k : Int) < (n : Int) := by omega
        have q0 : (0 : Int) ≤ (k : Int) := by omega
        clear d hrd
        generalize F[k] = f at *
        obtain ⟨x, y⟩ := f
        dsimp only at c1 c2 HSM
        generalize (L0 :: (F.take k).map lnF) = acc at *
        go_wp2_with fail
        refine (rfline_any x y _ HSM.out.1 HSM.out.2).mono ?_
        rintro e w3 ⟨rfl, HB30⟩
        have HB3 := Kp.mk HB30
        have HO3 := Kp.mk (own_bel HOW.out HB3.out)
        have HF3 := Kp.mk (own_bel HFW.out HB3.out)
        have HBZ := Kp.mk (HBW.out.trans (HB3.out.mono HBW.out.size))
        have hsz3 := HBZ.out.size
        have hlen : (acc.length + 1) * 16 ≤ 140737488355328 := by omega
        have hmx : acc.length + 1 ≤ maxLen := by unfold maxLen; omega
        clear HB30
        have HLN := Kp.mk (show lnF (x, y) = fLine x y from rfl)
        generalize fLine x y = s at *
        go_wp2_with (at_builtin; refine app_any rfl _ _ _ _ rfl Try.underlying84 _ _ _ Try.infoSH rfl (by omega) w.heap.size _ _ _ rfl HO3.out #[.string s] rfl (fun u hu => by simp at hu; subst hu; rfl) _ rfl rfl hlen hmx hsz3 ?_; intro g' cap' w' h1 h2 h3; have H1 := Kp.mk h1; have H2 := Kp.mk h2; clear h1 h2 h3)
        go_roundw
        case rel =>
          refine ⟨k + 1, by omega, by go_num, ?_, own_beside HO3.out HF3.out H2.out, HBZ.out.trans (grown_bel HO3.out hsz3 H2.out)⟩
          rw [HST.out, HLN.out, List.length_append, svH_snoc]
          exact H1.out
        case measure => simp [intOf] <;> omega
      · have hkn : k = n := by omega
        subst hkn
        have HTK := Kp.mk (show F.take k = F from List.take_of_length_le (by have := HN.out; omega))
        go_wp2_with fail
        go_ret
        refine ⟨_, rfl, ?_, HBW.out⟩
        have h9 := HOW.out
        rw [HTK.out] at h9
        rw [HR.out, HTK.out]
        exact h9
end Go.Proofs.Ytnpolkpofaamlaa
