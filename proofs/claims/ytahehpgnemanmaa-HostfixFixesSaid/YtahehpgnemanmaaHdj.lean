/- Fields with one set (layer 10), on both sides. -/
import Derived.Test.YtahehpgnemanmaaHdi
namespace Go.Proofs.Ytahehpgnemanmaa
open Go.RowKit
set_option linter.unusedVariables false
set_option linter.unusedSimpArgs false

def SetRel (l : List Fld) (nm y : ByteArray) (w : World) (vs f i : Value) (wr : World) : Prop :=
  ∃ k : Nat, k ≤ l.length ∧ i = .int .i64 k ∧ ∃ (s : List Fld) (b : Bool), setL (l.take k) nm y = (s, b) ∧ f = .bool b ∧ wr.ownsRow w.heap.size 61 2 vs s.length (fvH s) ∧ Below w.heap.size w wr
theorem setcell_own {w w2 : World} {B g i : Nat} {u : Value} {v : Value} {n : Nat} {xs : List Value} (h : w.ownsRow B 61 2 v n xs) (hb : Below w.heap.size w w2) (hg : w.heap.size ≤ g) : (w2.setCell ⟨g, i, none⟩ u).ownsRow B 61 2 v n xs :=
  own_bel h (hb.setCell hg u)
set_option maxRecDepth 100000 in
set_option maxHeartbeats 4000000 in
theorem hset_any (v : Value) (l : List Fld) (nm y : ByteArray) (w : World) (hv : RdF w v l) (hz : ∀ p ∈ l, FldSm p) (hl : l.length ≤ 100000) (hn : nm.size ≤ 100000) :
    Calls Try.prog 43 #[v, .string nm, .string y] w (RetF (hSet l nm y) w) := by
  have HV := Kp.mk hv
  have HZ := Kp.mk hz
  obtain ⟨a, cap, rfl, hc1, hc2, -⟩ := hv
  clear hz hc2
  go_enter Try.func43, Try.ntmps43
  go_wp2_with fail
  go_loopw [7, 8, 13] (fun vs f i wr => SetRel l nm y w vs f i wr) (fun _ _ i _ => l.length - (intOf i).toNat)
  case atStart => exact ⟨0, by omega, rfl, [], false, rfl, rfl, World.ownsRow_nil _ _ _ _, Below.refl _ _⟩
  case round =>
    obtain ⟨k, hk, rfl, s, b, hs, rfl, hown, hb⟩ := hrel
    obtain ⟨a2, cp, rfl⟩ := own_lenH hown
    have HB := Kp.mk hb
    have HO := Kp.mk hown
    have HS := Kp.mk hs
    have hsz := hb.size
    have hle := setL_len (l.take k) nm y
    rw [hs, List.length_take] at hle
    simp only at hle
    clear hown hb hs
    by_cases hlt : k < l.length
    · obtain ⟨g, o, rfl, hgl, d0⟩ := rdf_cells (HV.out.below HB.out) (by omega)
      obtain ⟨c1, c2⟩ := d0 k hlt
      obtain ⟨m1, m2⟩ := HZ.out l[k] (List.getElem_mem hlt)
      have q0 : (0 : Int) ≤ (k : Int) := by omega
      have q1 : (k : Int) < (l.length : Int) := by omega
      have HT := Kp.mk ((setL_take (nm := nm) (y := y) hlt).trans (by rw [HS.out]))
      clear d0
      generalize l[k] = p at *
      obtain ⟨x, z⟩ := p
      simp only at c1 c2 m1 m2
      go_wp2_with fail
      refine (oct_fold_any x nm _ (by omega) (by omega)).mono ?_
      rintro e w2 ⟨rfl, hb2⟩
      have hz2 : wr.heap.size < w2.heap.size := by have := hb2.size; simp at this; omega
      have hk2 := (hb2.block wr.heap.size (by simp)).trans (heap_alloc_new wr (.cells #[.string x, .string z] 61))
      have HK2 := Kp.mk hk2
      have HBI := Kp.mk (((Below.refl wr.heap.size wr).alloc (Nat.le_refl _) (.cells #[.string x, .string z] 61)).trans (hb2.mono (by simp)))
      have HB2 := Kp.mk (HB.out.trans (HBI.out.mono hsz))
      have HO2 := Kp.mk (own_bel HO.out HBI.out)
      have hsz2 := HB2.out.size
      clear hb2 hk2
      have hlen : (s.length + 1) * 32 ≤ 140737488355328 := by omega
      have hmx : s.length + 1 ≤ maxLen := by unfold maxLen; omega
      cases hf : foldB x nm
      · have HT2 := Kp.mk (HT.out.trans (step_no hf))
        have d1 := blk_cell (i := 0) HK2.out rfl
        have d2 := blk_cell (i := 1) HK2.out rfl
        go_wp2_with (at_builtin; refine app_any rfl _ _ _ _ rfl Try.underlying32 _ _ _ Try.infoFH rfl (by omega) w.heap.size _ _ _ rfl HO2.out #[.string x, .string z] rfl (fun u hu => by simp at hu; rcases hu with rfl | rfl <;> rfl) _ rfl rfl hlen hmx hsz2 ?_; intro g' cap' w' h1 h2 h3; have H1 := Kp.mk h1; have H2 := Kp.mk h2; clear h1 h2 h3)
        go_roundw
        case rel =>
          refine ⟨k + 1, by omega, by go_num, _, _, HT2.out, rfl, ?_, HB2.out.trans ((grown_bel HO2.out hsz2 H2.out))⟩
          rw [List.length_append, fvH_snoc]
          exact H1.out
        case measure => simp [intOf]; omega
      · cases b
        · have HT2 := Kp.mk (HT.out.trans (step_new hf))
          have HB3 := Kp.mk (show Below w.heap.size w (w2.setCell ⟨wr.heap.size, 1, none⟩ (.string y)) from HB2.out.setCell hsz (.string y))
          have HO3 := Kp.mk (setcell_own (i := 1) (u := .string y) HO.out HBI.out (Nat.le_refl _))
          have hk3 := blk_set (i := 1) HK2.out (.string y)
          have d1 := blk_cell (i := 0) hk3 rfl
          have d2 := blk_cell (i := 1) hk3 rfl
          have d0 := blk_cell (i := 1) HK2.out rfl
          have dz := blk_free (i := 1) HK2.out
          have hsz3 := HB3.out.size
          clear hk3
          go_wp2_with (at_builtin; refine app_any rfl _ _ _ _ rfl Try.underlying32 _ _ _ Try.infoFH rfl (by omega) w.heap.size _ _ _ rfl HO3.out #[.string x, .string y] rfl (fun u hu => by simp at hu; rcases hu with rfl | rfl <;> rfl) w2.heap.size (by simp [World.setCell]) rfl hlen hmx hsz3 ?_; intro g' cap' w' h1 h2 h3; have H1 := Kp.mk h1; have H2 := Kp.mk h2; clear h1 h2 h3)
          go_roundw
          case rel =>
            refine ⟨k + 1, by omega, by go_num, _, _, HT2.out, rfl, ?_, HB3.out.trans ((grown_bel HO3.out hsz3 H2.out))⟩
            rw [List.length_append, fvH_snoc]
            exact H1.out
          case measure => simp [intOf]; omega
        · have HT2 := Kp.mk (HT.out.trans (step_had hf))
          go_wp2_with fail
          go_roundw
          case rel => exact ⟨k + 1, by omega, by go_num, _, _, HT2.out, rfl, HO2.out, HB2.out⟩
          case measure => simp [intOf]; omega
    · have HK := Kp.mk (show setL l nm y = (s, b) by have := HS.out; rwa [List.take_of_length_le (by omega)] at this)
      cases b
      · have HH := Kp.mk (show hSet l nm y = l ++ [(nm, y)] by unfold hSet; rw [HK.out]; rfl)
        go_wp2_with fail
        refine (hwith_any _ l nm y _ (HV.out.below HB.out) hl).mono ?_
        rintro e w3 ⟨u, rfl, ho, hb3⟩
        have HO3 := Kp.mk ho
        have HB3 := Kp.mk hb3
        clear ho hb3
        go_wp2_with fail
        go_ret
        refine ⟨_, rfl, ?_, HB.out.trans (HB3.out.mono hsz)⟩
        rw [HH.out]
        exact ⟨HO3.out.1, HO3.out.2.imp id fun ⟨g, cap, cur, h1, h2, r⟩ => ⟨g, cap, cur, h1, Nat.le_trans hsz h2, r⟩⟩
      · have HH := Kp.mk (show hSet l nm y = s by unfold hSet; rw [HK.out]; rfl)
        go_wp2_with fail
        go_ret
        refine ⟨_, rfl, ?_, HB.out⟩
        rw [HH.out]
        exact HO.out
set_option maxRecDepth 100000 in
set_option maxHeartbeats 4000000 in
theorem rhset_any (v : Value) (l : List Fld) (nm y : ByteArray) (w : World) (hv : RdF w v l) (hz : ∀ p ∈ l, FldSm p) (hl : l.length ≤ 100000) (hn : nm.size ≤ 100000) :
    Calls Try.prog 45 #[v, .string nm, .string y] w (RetF (hSet l nm y) w) := by
  have HV := Kp.mk hv
  have HZ := Kp.mk hz
  obtain ⟨a, cap, rfl, hc1, hc2, -⟩ := hv
  clear hz hc2
  go_enter Try.func45, Try.ntmps45
  go_wp2_with fail
  go_loopw [7, 8, 9] (fun vs f i wr => SetRel l nm y w vs f i wr) (fun _ _ i _ => l.length - (intOf i).toNat)
  case atStart => exact ⟨0, by omega, rfl, [], false, rfl, rfl, World.ownsRow_lit (base := w.heap.size) (e := 61) (size := 2) w #[] 0 (Nat.le_refl _) (by unfold maxLen; omega) rfl, (Below.refl _ _).alloc (Nat.le_refl _) _⟩
  case round =>
    obtain ⟨k, hk, rfl, s, b, hs, rfl, hown, hb⟩ := hrel
    obtain ⟨a2, cp, rfl⟩ := own_lenH hown
    have HB := Kp.mk hb
    have HO := Kp.mk hown
    have HS := Kp.mk hs
    have hsz := hb.size
    have hle := setL_len (l.take k) nm y
    rw [hs, List.length_take] at hle
    simp only at hle
    clear hown hb hs
    by_cases hlt : k < l.length
    · obtain ⟨g, o, rfl, hgl, d0⟩ := rdf_cells (HV.out.below HB.out) (by omega)
      obtain ⟨c1, c2⟩ := d0 k hlt
      obtain ⟨m1, m2⟩ := HZ.out l[k] (List.getElem_mem hlt)
      have q0 : (0 : Int) ≤ (k : Int) := by omega
      have q1 : (k : Int) < (l.length : Int) := by omega
      have HT := Kp.mk ((setL_take (nm := nm) (y := y) hlt).trans (by rw [HS.out]))
      clear d0
      generalize l[k] = p at *
      obtain ⟨x, z⟩ := p
      simp only at c1 c2 m1 m2
      go_wp2_with fail
      refine (is10_any x nm _ (by omega) (by omega)).mono ?_
      rintro e w2 ⟨rfl, hb2⟩
      have d1 : w2.cell? ⟨g, o + k * 2, none⟩ = some (.string x) := (hb2.cell (p := ⟨g, _, none⟩) hgl).trans c1
      have d2 : w2.cell? ⟨g, o + k * 2 + 1, none⟩ = some (.string z) := (hb2.cell (p := ⟨g, _, none⟩) hgl).trans c2
      have HB2 := Kp.mk (HB.out.trans (hb2.mono hsz))
      have HO2 := Kp.mk (own_bel HO.out hb2)
      have hsz2 := HB2.out.size
      clear hb2
      have hlen : (s.length + 1) * 32 ≤ 140737488355328 := by omega
      have hmx : s.length + 1 ≤ maxLen := by unfold maxLen; omega
      cases hf : foldB x nm
      · have HT2 := Kp.mk (HT.out.trans (step_no hf))
        go_wp2_with (at_builtin; refine app_any rfl _ _ _ _ rfl Try.underlying32 _ _ _ Try.infoFH rfl (by omega) w.heap.size _ _ _ rfl HO2.out #[.string x, .string z] rfl (fun u hu => by simp at hu; rcases hu with rfl | rfl <;> rfl) _ rfl rfl hlen hmx hsz2 ?_; intro g' cap' w' h1 h2 h3; have H1 := Kp.mk h1; have H2 := Kp.mk h2; clear h1 h2 h3)
        go_roundw
        case rel =>
          refine ⟨k + 1, by omega, by go_num, _, _, HT2.out, rfl, ?_, HB2.out.trans ((grown_bel HO2.out hsz2 H2.out))⟩
          rw [List.length_append, fvH_snoc]
          exact H1.out
        case measure => simp [intOf]; omega
      · cases b
        · have HT2 := Kp.mk (HT.out.trans (step_new hf))
          go_wp2_with (at_builtin; refine app_any rfl _ _ _ _ rfl Try.underlying32 _ _ _ Try.infoFH rfl (by omega) w.heap.size _ _ _ rfl HO2.out #[.string x, .string y] rfl (fun u hu => by simp at hu; rcases hu with rfl | rfl <;> rfl) _ rfl rfl hlen hmx hsz2 ?_; intro g' cap' w' h1 h2 h3; have H1 := Kp.mk h1; have H2 := Kp.mk h2; clear h1 h2 h3)
          go_roundw
          case rel =>
            refine ⟨k + 1, by omega, by go_num, _, _, HT2.out, rfl, ?_, HB2.out.trans ((grown_bel HO2.out hsz2 H2.out))⟩
            rw [List.length_append, fvH_snoc]
            exact H1.out
          case measure => simp [intOf]; omega
        · have HT2 := Kp.mk (HT.out.trans (step_had hf))
          go_wp2_with fail
          go_roundw
          case rel => exact ⟨k + 1, by omega, by go_num, _, _, HT2.out, rfl, HO2.out, HB2.out⟩
          case measure => simp [intOf]; omega
    · have HK := Kp.mk (show setL l nm y = (s, b) by have := HS.out; rwa [List.take_of_length_le (by omega)] at this)
      cases b
      · have HH := Kp.mk (show hSet l nm y = l ++ [(nm, y)] by unfold hSet; rw [HK.out]; rfl)
        go_wp2_with fail
        refine (rhwith_any _ l nm y _ (HV.out.below HB.out) hl).mono ?_
        rintro e w3 ⟨u, rfl, ho, hb3⟩
        have HO3 := Kp.mk ho
        have HB3 := Kp.mk hb3
        clear ho hb3
        go_wp2_with fail
        go_ret
        refine ⟨_, rfl, ?_, HB.out.trans (HB3.out.mono hsz)⟩
        rw [HH.out]
        exact ⟨HO3.out.1, HO3.out.2.imp id fun ⟨g, cap, cur, h1, h2, r⟩ => ⟨g, cap, cur, h1, Nat.le_trans hsz h2, r⟩⟩
      · have HH := Kp.mk (show hSet l nm y = s by unfold hSet; rw [HK.out]; rfl)
        go_wp2_with fail
        go_ret
        refine ⟨_, rfl, ?_, HB.out⟩
        rw [HH.out]
        exact HO.out
end Go.Proofs.Ytahehpgnemanmaa
