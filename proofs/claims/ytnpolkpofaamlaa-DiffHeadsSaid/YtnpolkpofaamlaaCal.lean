/- How heads differ (layer 51): a head's lines, the program's. -/
import Derived.Test.YtnpolkpofaamlaaCag
import Derived.Test.YtnpolkpofaamlaaFlb
import Derived.Test.YtnpolkpofaamlaaStt
namespace Go.Proofs.Ytnpolkpofaamlaa
open Go.RowKit
set_option linter.unusedVariables false
set_option linter.unusedSimpArgs false

def lnF (f : Fld) : ByteArray := fLine f.1 f.2
def headT (m t : ByteArray) (mi st : Int) (r : ByteArray) (l : List Fld) : List ByteArray := lineH m t mi st r :: (cFld l).map lnF
/-- A row of texts grows beside a row of fields. -/
theorem own_beside {B B2 : Nat} {w w' : World} {o : Obj} {ov fv : Value} {n m : Nat} {xs ys : List Value} (h : w.ownsRow B 9 1 ov n xs) (hf : w.ownsRow B2 87 2 fv m ys) (h2 : (w.alloc o).grownBy w' ov.ownBlock) : w'.ownsRow B2 87 2 fv m ys :=
  own_kC hf fun k hk hb => (h2.block k (by simp; omega) (fun e => own_type_ne h hf (by decide) k e.symm hb)).trans (Below.heap_alloc w o k hk)
set_option maxRecDepth 100000 in
set_option maxHeartbeats 1000000 in
theorem hlines_any (m t : ByteArray) (mi st : Int) (r : ByteArray) (u : Value) (l : List Fld) (w : World) (hu : RdF w u l) (hz : ∀ p ∈ l, FldSm p) (hl : l.length ≤ 100) (hs : ∀ f ∈ cFld l, f.1.size ≤ 1000000 ∧ f.2.size ≤ 1000000) (hn : (cFld l).length ≤ 10000)
    (hm : m.size ≤ 1000000) (ht : t.size ≤ 1000000) (hr : r.size ≤ 1000000) (h0 : -9223372036854775808 ≤ st) (h1 : st ≤ 9223372036854775807) :
    Calls Try.prog 95 #[.agg #[.string m, .string t, .int .i64 mi, .int .i64 st, .string r, u]] w (RetS (headT m t mi st r l) w) := by
  have HU := Kp.mk hu
  obtain ⟨fa, fc, rfl, -, -, -⟩ := hu
  have HX := Kp.mk (HBx.new m t mi st r fa l.length fc w)
  have HLI := Kp.mk (fun W => line15_any m t mi st r fa l.length fc W hm ht hr h0 h1)
  have HFI := Kp.mk (fun W (hb : Below w.heap.size w W) => cfields_any _ l W (HU.out.below hb) hz hl)
  have HS := Kp.mk hs
  have HR := Kp.mk (show headT m t mi st r l = lineH m t mi st r :: (cFld l).map lnF from rfl)
  generalize headT m t mi st r l = R at *
  generalize lineH m t mi st r = L0 at *
  generalize cFld l = F at *
  have p0 := blk_cell (i := 0) HX.out.box rfl
  have p1 := blk_cell (i := 1) HX.out.box rfl
  have p2 := blk_cell (i := 2) HX.out.box rfl
  have p3 := blk_cell (i := 3) HX.out.box rfl
  have p4 := blk_cell (i := 4) HX.out.box rfl
  have p5 := blk_cell (i := 5) HX.out.box rfl
  clear hs hm ht hr h0 h1 hz
  go_enter Try.func95, Try.ntmps95
  go_wp2_with fail
  refine (HLI.out _).mono ?_
  rintro e w1 ⟨rfl, hb1⟩
  have HX1 := Kp.mk (HX.out.below hb1)
  have hx1 := HX1.out.box
  have hbz := HX1.out.bel.size
  have HA := Kp.mk ((Below.refl w1.heap.size w1).alloc (Nat.le_refl _) (.cells #[.string L0] 9))
  have HX2 := Kp.mk (HX1.out.below HA.out)
  have HO := Kp.mk (show (w1.alloc (.cells #[.string L0] 9)).ownsRow w.heap.size 9 1 (.slice (some ⟨w1.heap.size, 0, none⟩) 1 1) 1 [.string L0] from
    World.ownsRow_lit (base := w.heap.size) (e := 9) (size := 1) w1 #[.string L0] 1 hbz (by unfold maxLen; omega) rfl)
  have c5 := blk_cell (i := 5) HX2.out.box rfl
  clear hb1 hx1 hbz p0 p1 p2 p3 p4 p5
  go_wp2_with fail
  refine (HFI.out _ HX2.out.bel).mono ?_
  rintro e w2 ⟨fv, rfl, ho, hb⟩
  have HB2 := Kp.mk (HX2.out.bel.trans (hb.mono HX2.out.bel.size))
  have HO2 := Kp.mk (own_bel HO.out hb)
  have HF2 := Kp.mk (own_upC ho HX2.out.bel.size)
  obtain ⟨af, cf, rfl⟩ := own_lenH ho
  clear ho hb c5
  generalize hnn : F.length = n at *
  have HN := Kp.mk hnn
  clear hnn
  go_wp2_with fail
  go_loopw [3, 13] (fun ov i wr => ∃ k : Nat, k ≤ n ∧ i = .int .i64 k ∧ wr.ownsRow w.heap.size 9 1 ov (L0 :: (F.take k).map lnF).length (svH (L0 :: (F.take k).map lnF)) ∧ wr.ownsRow w.heap.size 87 2 (.slice af n cf) n (fvH F) ∧ Below w.heap.size w wr) (fun _ i _ => n - (intOf i).toNat)
  case atStart => exact ⟨0, Nat.zero_le _, rfl, HO2.out, HF2.out, HB2.out⟩
  case round =>
    obtain ⟨k, hk, rfl, ho, hf, hb⟩ := hrel
    have HOW := Kp.mk ho
    have HFW := Kp.mk hf
    have HBW := Kp.mk hb
    obtain ⟨ao, co, rfl⟩ := own_lenH ho
    have hal : (L0 :: (F.take k).map lnF).length ≤ 10001 := by
      rw [List.length_cons, List.length_map, List.length_take]
      omega
    clear ho hf hb
    by_cases hlt : k < n
    · have hkl : k < F.length := by have := HN.out; omega
      have hrd : RdF wr (.slice af n cf) F := rdf_own (by rw [HN.out]; exact HFW.out)
      obtain ⟨g, o, rfl, hgl, d⟩ := rdf_cells hrd (by omega)
      obtain ⟨c1, c2⟩ := d k hkl
      have HSM := Kp.mk (HS.out _ (List.getElem_mem hkl))
      have HST := Kp.mk (show L0 :: (F.take (k + 1)).map lnF = (L0 :: (F.take k).map lnF) ++ [lnF F[k]] by rw [List.take_succ_eq_append_getElem hkl, List.map_append]; rfl)
      have q1 : (k : Int) < (n : Int) := by omega
      have q0 : (0 : Int) ≤ (k : Int) := by omega
      clear d hrd
      generalize F[k] = f at *
      obtain ⟨x, y⟩ := f
      dsimp only at c1 c2 HSM
      generalize (L0 :: (F.take k).map lnF) = acc at *
      go_wp2_with fail
      refine (fline_any x y _ HSM.out.1 HSM.out.2).mono ?_
      rintro e w3 ⟨rfl, hb3⟩
      have HA3 := (Below.refl wr.heap.size wr).alloc (Nat.le_refl _) (.cells #[.string x, .string y] 87)
      have HB3 := Kp.mk (HA3.trans (hb3.mono HA3.size))
      have HO3 := Kp.mk (own_bel HOW.out HB3.out)
      have HF3 := Kp.mk (own_bel HFW.out HB3.out)
      have HBZ := Kp.mk (HBW.out.trans (HB3.out.mono HBW.out.size))
      have hsz3 := HBZ.out.size
      have hlen : (acc.length + 1) * 16 ≤ 140737488355328 := by omega
      have hmx : acc.length + 1 ≤ maxLen := by unfold maxLen; omega
      clear HA3 hb3
      have HLN := Kp.mk (show lnF (x, y) = fLine x y from rfl)
      generalize fLine x y = s at *
      go_wp2_with (at_builtin; refine app_any rfl _ _ _ _ rfl Try.underlying84 _ _ _ Try.infoSH rfl (by omega) w.heap.size _ _ _ rfl HO3.out #[.string s] rfl (fun u hu => by simp at hu; subst hu; rfl) _ rfl rfl hlen hmx hsz3 ?_; intro g' cap' w' h1 h2 h3; have H1 := Kp.mk h1; have H2 := Kp.mk h2; clear h1 h2 h3)
      go_roundw
      case rel =>
        refine ⟨k + 1, by omega, by go_num, ?_, own_beside HO3.out HF3.out H2.out, HBZ.out.trans (grown_bel HO3.out hsz3 H2.out)⟩
        rw [HST.out, HLN.out, List.length_append, svH_snoc]
        exact H1.out
      case measure => simp [intOf] <;> omega
    · have hkn : k = n := by omega
      subst hkn
      have HTK := Kp.mk (show F.take k = F from List.take_of_length_le (by have := HN.out; omega))
      go_wp2_with fail
      go_ret
      refine ⟨_, rfl, ?_, HBW.out⟩
      have h9 := HOW.out
      rw [HTK.out] at h9
      rw [HR.out, HTK.out]
      exact h9
end Go.Proofs.Ytnpolkpofaamlaa
