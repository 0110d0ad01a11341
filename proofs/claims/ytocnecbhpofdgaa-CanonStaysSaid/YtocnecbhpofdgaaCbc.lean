/- The lines of fields in one form (layer 50), on both sides (bin/mkcbc.py). -/
import Derived.Test.YtocnecbhpofdgaaCbe
import Derived.Test.YtocnecbhpofdgaaCak
namespace Go.Proofs.Ytocnecbhpofdgaa
open Go.RowKit
set_option linter.unusedVariables false
set_option linter.unusedSimpArgs false

theorem own_besideC {B B2 : Nat} {w w' : World} {o : Obj} {ov fv : Value} {n m : Nat} {xs ys : List Value} (h : w.ownsRow B 9 1 ov n xs) (hf : w.ownsRow B2 64 2 fv m ys) (h2 : (w.alloc o).grownBy w' ov.ownBlock) : w'.ownsRow B2 64 2 fv m ys :=
  own_kC hf fun k hk hb => (h2.block k (by simp; omega) (fun e => own_type_ne h hf (by decide) k e.symm hb)).trans (Below.heap_alloc w o k hk)
def lnC (f : Fld) : ByteArray := f.1 ++ ⟨#[58, 32]⟩ ++ f.2
theorem rfields_c (v : Value) (l : List Fld) (w : World) (hv : RdF w v l) (hz : ∀ p ∈ l, FldSm p) (hl : l.length ≤ 100) :
    Calls Try.prog 25 #[v] w (RetF (cFld l) w) := by
  have := rfields_any v l w hv hz hl
  rw [rFld_eq] at this
  exact this
set_option maxRecDepth 100000 in
set_option maxHeartbeats 4000000 in
theorem clines_any (v : Value) (l : List Fld) (w : World) (hv : RdF w v l) (hz : ∀ p ∈ l, FldSm p) (hl : l.length ≤ 100) (hs : ∀ f ∈ cFld l, f.1.size ≤ 100 ∧ f.2.size ≤ 30200) :
    Calls Try.prog 29 #[v] w (RetS ((cFld l).map lnC) w) := by
  have HFI := Kp.mk (cfields_any v l w hv hz hl)
  have HS := Kp.mk hs
  have HLN := Kp.mk (cFld_len l)
  obtain ⟨av, cv, rfl, -, -, -⟩ := hv
  clear hz hs
  unfold RetF at HFI
  unfold RetS
  obtain ⟨R, hR⟩ : ∃ R, R = (cFld l).map lnC := ⟨_, rfl⟩
  have HR := Kp.mk hR
  rw [← hR]
  clear hR
  generalize cFld l = F at *
  go_enter Try.func29, Try.ntmps29
  go_wp2_with fail
  refine HFI.out.mono ?_
  rintro e w1 ⟨u, rfl, ho, hb⟩
  have HO := Kp.mk ho
  have HB := Kp.mk hb
  have HOE := Kp.mk (World.ownsRow_nil (base := w.heap.size) (e := 9) (size := 1) w1)
  obtain ⟨af, cf, rfl⟩ := own_lenH ho
  have hln : F.length ≤ 100 := by have := HLN.out; omega
  clear ho hb
  generalize hnn : F.length = n at *
  have HN := Kp.mk hnn
  clear hnn
  go_wp2_with fail
  go_loopw [3, 9] (fun ov i wr => ∃ k : Nat, k ≤ n ∧ i = .int .i64 k ∧ wr.ownsRow w.heap.size 9 1 ov ((F.take k).map lnC).length (svH ((F.take k).map lnC)) ∧ wr.ownsRow w.heap.size 64 2 (.slice af n cf) n (fvH F) ∧ Below w.heap.size w wr) (fun _ i _ => n - (intOf i).toNat)
  case atStart => exact ⟨0, Nat.zero_le _, rfl, HOE.out, HO.out, HB.out⟩
  case round =>
    obtain ⟨k, hk, rfl, ho, hf, hb⟩ := hrel
    have HOW := Kp.mk ho
    have HFW := Kp.mk hf
    have HBW := Kp.mk hb
    obtain ⟨ao, co, rfl⟩ := own_lenH ho
    have hal : ((F.take k).map lnC).length ≤ 100 := by rw [List.length_map, List.length_take]; omega
    have hszw := hb.size
    clear ho hf hb
    by_cases hlt : k < n
    · have hkl : k < F.length := by have := HN.out; omega
      have hrd : RdF wr (.slice af n cf) F := rdf_own (by rw [HN.out]; exact HFW.out)
      obtain ⟨g, o, rfl, hgl, d⟩ := rdf_cells hrd (by omega)
      obtain ⟨c1, c2⟩ := d k hkl
      have HSM := Kp.mk (HS.out _ (List.getElem_mem hkl))
      have HST := Kp.mk (show (F.take (k + 1)).map lnC = ((F.take k).map lnC) ++ [lnC F[k]] by rw [List.take_succ_eq_append_getElem hkl, List.map_append]; rfl)
      have q1 : (k : Int) < (n : Int) := by omega
      have q0 : (0 : Int) ≤ (k : Int) := by omega
      clear d hrd
      generalize F[k] = f at *
      obtain ⟨x, y⟩ := f
      dsimp only at c1 c2 HSM
      generalize ((F.take k).map lnC) = acc at *
      have hx := HSM.out.1
      have hy := HSM.out.2
      have hxs : (x ++ (⟨#[58, 32]⟩ : ByteArray)).size = x.size + 2 := by rw [ByteArray.size_append]; rfl
      have HA3 := (Below.refl wr.heap.size wr).alloc (Nat.le_refl _) (.cells #[.string x, .string y] 64)
      have HO3 := Kp.mk (own_bel HOW.out HA3)
      have HF3 := Kp.mk (own_bel HFW.out HA3)
      have HBZ := Kp.mk (HBW.out.trans (HA3.mono hszw))
      have hsz3 := HBZ.out.size
      have hlen : (acc.length + 1) * 16 ≤ 140737488355328 := by omega
      have hmx : acc.length + 1 ≤ maxLen := by unfold maxLen; omega
      clear HA3
      have HLN := Kp.mk (show lnC (x, y) = x ++ ⟨#[58, 32]⟩ ++ y from rfl)
      go_wp2_with (at_builtin; refine app_any rfl _ _ _ _ rfl Try.underlying61 _ _ _ Try.infoSH rfl (by omega) w.heap.size _ _ _ rfl HO3.out #[.string (x ++ ⟨#[58, 32]⟩ ++ y)] rfl (fun u hu => by simp at hu; subst hu; rfl) (wr.heap.size + 1) (by simp) rfl hlen hmx hsz3 ?_; intro g' cap' w' h1 h2 h3; have H1 := Kp.mk h1; have H2 := Kp.mk h2; clear h1 h2 h3)
      go_roundw
      case rel =>
        refine ⟨k + 1, by omega, by go_num, ?_, own_besideC HO3.out HF3.out H2.out, HBZ.out.trans (grown_bel HO3.out hsz3 H2.out)⟩
        rw [HST.out, HLN.out, List.length_append, svH_snoc]
        exact H1.out
      case measure => simp [intOf] <;> omega
    · have hkn : k = n := by omega
      subst hkn
      have HTK := Kp.mk (show F.take k = F from List.take_of_length_le (by have := HN.out; omega))
      go_wp2_with fail
      go_ret
      refine ⟨_, rfl, ?_, HBW.out⟩
      have h9 := HOW.out
      rw [HTK.out] at h9
      rw [HR.out, HTK.out]
      exact h9
set_option maxRecDepth 100000 in
set_option maxHeartbeats 4000000 in
theorem rlines_any (v : Value) (l : List Fld) (w : World) (hv : RdF w v l) (hz : ∀ p ∈ l, FldSm p) (hl : l.length ≤ 100) (hs : ∀ f ∈ cFld l, f.1.size ≤ 100 ∧ f.2.size ≤ 30200) :
    Calls Try.prog 30 #[v] w (RetS ((cFld l).map lnC) w) := by
  have HFI := Kp.mk (rfields_c v l w hv hz hl)
  have HS := Kp.mk hs
  have HLN := Kp.mk (cFld_len l)
  obtain ⟨av, cv, rfl, -, -, -⟩ := hv
  clear hz hs
  unfold RetF at HFI
  unfold RetS
  obtain ⟨R, hR⟩ : ∃ R, R = (cFld l).map lnC := ⟨_, rfl⟩
  have HR := Kp.mk hR
  rw [← hR]
  clear hR
  generalize cFld l = F at *
  go_enter Try.func30, Try.ntmps30
  go_wp2_with fail
  refine HFI.out.mono ?_
  rintro e w1 ⟨u, rfl, ho, hb⟩
  have hsz1 := hb.size
  have hba := (Below.refl w1.heap.size w1).alloc (Nat.le_refl _) (.cells #[] 9)
  have HO := Kp.mk (own_bel ho hba)
  have HB := Kp.mk (hb.trans (hba.mono hsz1))
  have HOE := Kp.mk (show (w1.alloc (.cells #[] 9)).ownsRow w.heap.size 9 1 (.slice (some ⟨w1.heap.size, 0, none⟩) 0 0) 0 (svH []) from
    World.ownsRow_lit (base := w.heap.size) (e := 9) (size := 1) w1 #[] 0 hsz1 (by unfold maxLen; omega) rfl)
  obtain ⟨af, cf, rfl⟩ := own_lenH ho
  have hln : F.length ≤ 100 := by have := HLN.out; omega
  clear ho hb hba
  generalize hnn : F.length = n at *
  have HN := Kp.mk hnn
  clear hnn
  go_wp2_with fail
  go_loopw [4, 5] (fun ov i wr => ∃ k : Nat, k ≤ n ∧ i = .int .i64 k ∧ wr.ownsRow w.heap.size 9 1 ov ((F.take k).map lnC).length (svH ((F.take k).map lnC)) ∧ wr.ownsRow w.heap.size 64 2 (.slice af n cf) n (fvH F) ∧ Below w.heap.size w wr) (fun _ i _ => n - (intOf i).toNat)
  case atStart => exact ⟨0, Nat.zero_le _, rfl, HOE.out, HO.out, HB.out⟩
  case round =>
    obtain ⟨k, hk, rfl, ho, hf, hb⟩ := hrel
    have HOW := Kp.mk ho
    have HFW := Kp.mk hf
    have HBW := Kp.mk hb
    obtain ⟨ao, co, rfl⟩ := own_lenH ho
    have hal : ((F.take k).map lnC).length ≤ 100 := by rw [List.length_map, List.length_take]; omega
    have hszw := hb.size
    by_cases hlt : k < n
    · have hkl : k < F.length := by have := HN.out; omega
      have hrd : RdF wr (.slice af n cf) F := rdf_own (by rw [HN.out]; exact HFW.out)
      obtain ⟨g, o, rfl, hgl, d⟩ := rdf_cells hrd (by omega)
      have HNE := Kp.mk (show (Value.slice ao ((F.take k).map lnC).length co).ownBlock ≠ some g from fun e => by
        have hne := own_type_ne HOW.out HFW.out (by decide) g e
        obtain ⟨g2, -, he⟩ : ∃ g2, True ∧ (some g2 = some g) := ⟨g, trivial, rfl⟩
        rcases HFW.out.2 with ⟨h9, h8⟩ | ⟨g3, c3, cur3, h9, -⟩
        · omega
        · cases h9
          exact hne rfl)
      obtain ⟨c1, c2⟩ := d k hkl
      have HSM := Kp.mk (HS.out _ (List.getElem_mem hkl))
      have HST := Kp.mk (show (F.take (k + 1)).map lnC = ((F.take k).map lnC) ++ [lnC F[k]] by rw [List.take_succ_eq_append_getElem hkl, List.map_append]; rfl)
      have q1 : (k : Int) < (n : Int) := by omega
      have q0 : (0 : Int) ≤ (k : Int) := by omega
      clear d hrd ho hf hb
      generalize F[k] = f at *
      obtain ⟨x, y⟩ := f
      dsimp only at c1 c2 HSM
      generalize ((F.take k).map lnC) = acc at *
      have hx := HSM.out.1
      have hy := HSM.out.2
      have hxs : (x ++ (⟨#[58, 32]⟩ : ByteArray)).size = x.size + 2 := by rw [ByteArray.size_append]; rfl
      have HOD := Kp.mk (own_bel HOW.out (gdrewN wr 1))
      have HFD := Kp.mk (own_bel HFW.out (gdrewN wr 1))
      have lenC : (acc.length + 1) * 16 ≤ 140737488355328 := by omega
      have lenD : acc.length + 1 ≤ maxLen := by unfold maxLen; omega
      have HLN := Kp.mk (show lnC (x, y) = x ++ ⟨#[58, 32]⟩ ++ y from rfl)
      have HGB := Kp.mk hgl
      have hn1 : ¬ 9223372036854775807 < x.size + 2 := by omega
      have hn2 : ¬ 9223372036854775807 < x.size + 2 + y.size := by omega
      have k1 : (wr.drew.alloc (.cells #[.string (x ++ ⟨#[58, 32]⟩ ++ y)] 9)).cell? ⟨g, o + k * 2, none⟩ = some (.string x) := (((Below.refl wr.drew.heap.size wr.drew).alloc (Nat.le_refl _) _).cell (p := ⟨g, _, none⟩) hgl).trans c1
      have k2 : (wr.drew.alloc (.cells #[.string (x ++ ⟨#[58, 32]⟩ ++ y)] 9)).cell? ⟨g, o + k * 2 + 1, none⟩ = some (.string y) := (((Below.refl wr.drew.heap.size wr.drew).alloc (Nat.le_refl _) _).cell (p := ⟨g, _, none⟩) hgl).trans c2
      go_upto_region 5 with fail
      · skip
        refine wp_region_held_drew (S := fun w' => w'.cell? ⟨g, o + k * 2, none⟩ = some (.string x) ∧ w'.cell? ⟨g, o + k * 2 + 1, none⟩ = some (.string y)) (by kernel_rfl) (show _ from ⟨c1, c2⟩) (fun hHeld => ?_)
        refine wpAnyH_take (i := 0) (oi := ⟨some 15, .move (.tmp 4), _, _, _, none⟩) (v := ?_) rfl (by kernel_rfl) (by kernel_rfl) (by kernel_rfl) (fun _ _ _ h => h) (Or.inl ⟨by rfl, ?_⟩) (by assumption) ?_
        rotate_left
        · intro w hSw
          try dsimp only at hSw
          go_simp
          try with_reducible rfl
        try simp only [Act.put, List.setIfInBounds_toArray, List.set_cons_zero, List.set_cons_succ]
        refine wpAnyH_take (i := 1) (oi := ⟨some 16, .move (.tmp 3), _, _, _, none⟩) (v := ?_) rfl (by kernel_rfl) (by kernel_rfl) (by kernel_rfl) (fun _ _ _ h => h) (Or.inl ⟨by rfl, ?_⟩) (by assumption) ?_
        rotate_left
        · intro w hSw
          try dsimp only at hSw
          go_simp
          try with_reducible rfl
        try simp only [Act.put, List.setIfInBounds_toArray, List.set_cons_zero, List.set_cons_succ]
        refine wpAnyH_take (i := 2) (oi := ⟨some 17, .move (.tmp 5), _, _, _, none⟩) (v := ?_) rfl (by kernel_rfl) (by kernel_rfl) (by kernel_rfl) (fun _ _ _ h => h) (Or.inl ⟨by rfl, ?_⟩) (by assumption) ?_
        rotate_left
        · intro w hSw
          try dsimp only at hSw
          go_simp
          try with_reducible rfl
        try simp only [Act.put, List.setIfInBounds_toArray, List.set_cons_zero, List.set_cons_succ]
        refine wpAnyH_take (i := 3) (oi := ⟨some 18, .indexAddr 22 (.tmp 16) (.tmp 17), _, _, _, none⟩) (v := ?_) rfl (by kernel_rfl) (by kernel_rfl) (by kernel_rfl) (fun _ _ _ h => h) (Or.inl ⟨by rfl, ?_⟩) (by assumption) ?_
        rotate_left
        · intro w hSw
          try dsimp only at hSw
          go_simp
          try with_reducible rfl
        try simp only [Act.put, List.setIfInBounds_toArray, List.set_cons_zero, List.set_cons_succ]
        refine wpAnyH_take (i := 4) (oi := ⟨some 19, .fieldAddr 64 (.tmp 18) 0, _, _, _, none⟩) (v := ?_) rfl (by kernel_rfl) (by kernel_rfl) (by kernel_rfl) (fun _ _ _ h => h) (Or.inl ⟨by rfl, ?_⟩) (by assumption) ?_
        rotate_left
        · intro w hSw
          try dsimp only at hSw
          go_simp
          try with_reducible rfl
        try simp only [Act.put, List.setIfInBounds_toArray, List.set_cons_zero, List.set_cons_succ]
        refine wpAnyH_take (i := 5) (oi := ⟨some 20, .load 9 (.tmp 19), _, _, _, none⟩) (v := ?_) rfl (by kernel_rfl) (by kernel_rfl) (by kernel_rfl) (fun _ _ _ h => h) (Or.inl ⟨by rfl, ?_⟩) (by assumption) ?_
        rotate_left
        · intro w hSw
          try dsimp only at hSw
          go_simp
          try with_reducible rfl
        try simp only [Act.put, List.setIfInBounds_toArray, List.set_cons_zero, List.set_cons_succ]
        refine wpAnyH_take (i := 6) (oi := ⟨some 21, .binOp .add 9 (.tmp 20) (.const (.string ⟨#[58, 32]⟩)) 9, _, _, _, none⟩) (v := ?_) rfl (by kernel_rfl) (by kernel_rfl) (by kernel_rfl) (fun _ _ _ h => h) (Or.inl ⟨by rfl, ?_⟩) (by assumption) ?_
        rotate_left
        · intro w hSw
          try dsimp only at hSw
          go_simp
          try with_reducible rfl
        try simp only [Act.put, List.setIfInBounds_toArray, List.set_cons_zero, List.set_cons_succ]
        refine wpAnyH_take (i := 7) (oi := ⟨some 22, .move (.tmp 3), _, _, _, none⟩) (v := ?_) rfl (by kernel_rfl) (by kernel_rfl) (by kernel_rfl) (fun _ _ _ h => h) (Or.inl ⟨by rfl, ?_⟩) (by assumption) ?_
        rotate_left
        · intro w hSw
          try dsimp only at hSw
          go_simp
          try with_reducible rfl
        try simp only [Act.put, List.setIfInBounds_toArray, List.set_cons_zero, List.set_cons_succ]
        refine wpAnyH_take (i := 8) (oi := ⟨some 23, .move (.tmp 5), _, _, _, none⟩) (v := ?_) rfl (by kernel_rfl) (by kernel_rfl) (by kernel_rfl) (fun _ _ _ h => h) (Or.inl ⟨by rfl, ?_⟩) (by assumption) ?_
        rotate_left
        · intro w hSw
          try dsimp only at hSw
          go_simp
          try with_reducible rfl
        try simp only [Act.put, List.setIfInBounds_toArray, List.set_cons_zero, List.set_cons_succ]
        refine wpAnyH_take (i := 9) (oi := ⟨some 24, .indexAddr 22 (.tmp 22) (.tmp 23), _, _, _, none⟩) (v := ?_) rfl (by kernel_rfl) (by kernel_rfl) (by kernel_rfl) (fun _ _ _ h => h) (Or.inl ⟨by rfl, ?_⟩) (by assumption) ?_
        rotate_left
        · intro w hSw
          try dsimp only at hSw
          go_simp
          try with_reducible rfl
        try simp only [Act.put, List.setIfInBounds_toArray, List.set_cons_zero, List.set_cons_succ]
        refine wpAnyH_take (i := 10) (oi := ⟨some 25, .fieldAddr 64 (.tmp 24) 1, _, _, _, none⟩) (v := ?_) rfl (by kernel_rfl) (by kernel_rfl) (by kernel_rfl) (fun _ _ _ h => h) (Or.inl ⟨by rfl, ?_⟩) (by assumption) ?_
        rotate_left
        · intro w hSw
          try dsimp only at hSw
          go_simp
          try with_reducible rfl
        try simp only [Act.put, List.setIfInBounds_toArray, List.set_cons_zero, List.set_cons_succ]
        refine wpAnyH_take (i := 11) (oi := ⟨some 26, .load 9 (.tmp 25), _, _, _, none⟩) (v := ?_) rfl (by kernel_rfl) (by kernel_rfl) (by kernel_rfl) (fun _ _ _ h => h) (Or.inl ⟨by rfl, ?_⟩) (by assumption) ?_
        rotate_left
        · intro w hSw
          try dsimp only at hSw
          go_simp
          try with_reducible rfl
        try simp only [Act.put, List.setIfInBounds_toArray, List.set_cons_zero, List.set_cons_succ]
        refine wpAnyH_take (i := 12) (oi := ⟨some 27, .binOp .add 9 (.tmp 21) (.tmp 26) 9, _, _, _, none⟩) (v := ?_) rfl (by kernel_rfl) (by kernel_rfl) (by kernel_rfl) (fun _ _ _ h => h) (Or.inl ⟨by rfl, ?_⟩) (by assumption) ?_
        rotate_left
        · intro w hSw
          try dsimp only at hSw
          go_simp
          try with_reducible rfl
        try simp only [Act.put, List.setIfInBounds_toArray, List.set_cons_zero, List.set_cons_succ]
        refine wpAnyH_ready (rs := [13]) (by kernel_rfl) (by simp) ?_
        refine AllReadyH.cons (o := ⟨some 28, _, _, _, _, none⟩) rfl (fun K hK => ?_) AllReadyH.nil
        go_simp
        refine hK.out _ _ (⟨k1, k2⟩) (fun hHeld2 => ?_)
        clear hK K
        try simp only [Act.put, List.setIfInBounds_toArray, List.set_cons_zero, List.set_cons_succ]
        refine wpAnyH_ready (rs := [14]) (by kernel_rfl) (by simp) ?_
        refine AllReadyH.cons (o := ⟨some 29, _, _, _, _, none⟩) rfl (fun K hK => ?_) AllReadyH.nil
        apply oq_app_any (wr := wr.drew) (e := 9) (cs := #[.string (x ++ ⟨#[58, 32]⟩ ++ y)]) (B := w.heap.size) (v := .slice ao acc.length co) (hown := HOD.out) (H := wr.heap.size) (hH := rfl) (hlen := lenC) (hm := lenD) (hB := hszw) (hi := Try.infoSH) (ht := Try.underlying61)
        all_goals (try (first | rfl | decide | (intro u hu; simp at hu; subst hu; rfl)))
        intro g' cap' w6 h1 h2 h3
        have HF := Kp.mk h1
        have HG := Kp.mk h2
        have HK6 := Kp.mk (And.intro ((h2.block g (by simp; omega) (fun e => HNE.out e.symm)).trans (Below.heap_alloc wr.drew _ g hgl)) HGB.out)
        have s6 : w6.cell? ⟨g, o + k * 2, none⟩ = some (.string x) ∧ w6.cell? ⟨g, o + k * 2 + 1, none⟩ = some (.string y) := ⟨(World.cell?_of_block HK6.out.1).trans c1, (World.cell?_of_block HK6.out.1).trans c2⟩
        have HS6 := Kp.mk s6
        clear h1 h2 h3 s6
        refine hK.out _ _ (HS6.out) (fun hHeld2 => ?_)
        clear hK K
        try simp only [Act.put, List.setIfInBounds_toArray, List.set_cons_zero, List.set_cons_succ]
        refine wpAnyH_take (i := 15) (oi := ⟨some 4, .assign (.tmp 29), _, _, _, none⟩) (v := ?_) rfl (by kernel_rfl) (by kernel_rfl) (by kernel_rfl) (fun _ _ _ h => h) (Or.inl ⟨by rfl, ?_⟩) (by assumption) ?_
        rotate_left
        · intro w hSw
          try dsimp only at hSw
          go_simp
          try with_reducible rfl
        try simp only [Act.put, List.setIfInBounds_toArray, List.set_cons_zero, List.set_cons_succ]
        refine wpAnyH_done (by kernel_rfl) ?_ _
        go_wp2_with fail
        go_roundw
        case rel =>
          refine ⟨k + 1, by omega, by go_num, ?_, own_besideC HOD.out HFD.out HG.out, (HBW.out.trans ((gdrewN wr 1).mono hszw)).trans ((grown_bel HOD.out hszw HG.out).mono (Nat.le_refl _))⟩
          rw [HST.out, HLN.out, List.length_append, svH_snoc]
          exact HF.out
        case measure => simp [intOf] <;> omega
    · have hkn : k = n := by omega
      subst hkn
      have HTK := Kp.mk (show F.take k = F from List.take_of_length_le (by have := HN.out; omega))
      clear ho hf hb
      go_wp2_with fail
      go_ret
      refine ⟨_, rfl, ?_, HBW.out⟩
      have h9 := HOW.out
      rw [HTK.out] at h9
      rw [HR.out, HTK.out]
      exact h9
end Go.Proofs.Ytocnecbhpofdgaa
