/- Trailers (layer 26): which names are allowed, the program's. -/
import Derived.Test.YtpgeheblmpjndaaHdb
import Derived.Test.YtpgeheblmpjndaaOcto
import Derived.Laws.EntriesVeiled
namespace Go.Proofs.Ytpgeheblmpjndaa
open Go.RowKit
set_option linter.unusedVariables false
set_option linter.unusedSimpArgs false

def trNames : List ByteArray := [⟨#[65, 103, 101]⟩, ⟨#[65, 117, 116, 104, 111, 114, 105, 122, 97, 116, 105, 111, 110]⟩, ⟨#[67, 97, 99, 104, 101, 45, 67, 111, 110, 116, 114, 111, 108]⟩, ⟨#[67, 111, 110, 110, 101, 99, 116, 105, 111, 110]⟩, ⟨#[67, 111, 110, 116, 101, 110, 116, 45, 69, 110, 99, 111, 100, 105, 110, 103]⟩, ⟨#[67, 111, 110, 116, 101, 110, 116, 45, 76, 101, 110, 103, 116, 104]⟩, ⟨#[67, 111, 110, 116, 101, 110, 116, 45, 82, 97, 110, 103, 101]⟩, ⟨#[67, 111, 110, 116, 101, 110, 116, 45, 84, 121, 112, 101]⟩, ⟨#[67, 111, 111, 107, 105, 101]⟩, ⟨#[68, 97, 116, 101]⟩, ⟨#[69, 120, 112, 101, 99, 116]⟩, ⟨#[69, 120, 112, 105, 114, 101, 115]⟩, ⟨#[72, 111, 115, 116]⟩, ⟨#[73, 102, 45, 77, 97, 116, 99, 104]⟩, ⟨#[73, 102, 45, 77, 111, 100, 105, 102, 105, 101, 100, 45, 83, 105, 110, 99, 101]⟩, ⟨#[73, 102, 45, 78, 111, 110, 101, 45, 77, 97, 116, 99, 104]⟩, ⟨#[73, 102, 45, 82, 97, 110, 103, 101]⟩, ⟨#[73, 102, 45, 85, 110, 109, 111, 100, 105, 102, 105, 101, 100, 45, 83, 105, 110, 99, 101]⟩, ⟨#[75, 101, 101, 112, 45, 65, 108, 105, 118, 101]⟩, ⟨#[76, 111, 99, 97, 116, 105, 111, 110]⟩, ⟨#[77, 97, 120, 45, 70, 111, 114, 119, 97, 114, 100, 115]⟩, ⟨#[80, 114, 97, 103, 109, 97]⟩, ⟨#[80, 114, 111, 120, 121, 45, 65, 117, 116, 104, 101, 110, 116, 105, 99, 97, 116, 101]⟩, ⟨#[80, 114, 111, 120, 121, 45, 65, 117, 116, 104, 111, 114, 105, 122, 97, 116, 105, 111, 110]⟩, ⟨#[80, 114, 111, 120, 121, 45, 67, 111, 110, 110, 101, 99, 116, 105, 111, 110]⟩, ⟨#[82, 97, 110, 103, 101]⟩, ⟨#[82, 101, 116, 114, 121, 45, 65, 102, 116, 101, 114]⟩, ⟨#[83, 101, 116, 45, 67, 111, 111, 107, 105, 101]⟩, ⟨#[84, 69]⟩, ⟨#[84, 114, 97, 105, 108, 101, 114]⟩, ⟨#[84, 114, 97, 110, 115, 102, 101, 114, 45, 69, 110, 99, 111, 100, 105, 110, 103]⟩, ⟨#[85, 112, 103, 114, 97, 100, 101]⟩, ⟨#[86, 97, 114, 121]⟩, ⟨#[86, 105, 97]⟩, ⟨#[87, 87, 87, 45, 65, 117, 116, 104, 101, 110, 116, 105, 99, 97, 116, 101]⟩]
def trCells : Array Value := #[.string ⟨#[65, 103, 101]⟩, .string ⟨#[65, 117, 116, 104, 111, 114, 105, 122, 97, 116, 105, 111, 110]⟩, .string ⟨#[67, 97, 99, 104, 101, 45, 67, 111, 110, 116, 114, 111, 108]⟩, .string ⟨#[67, 111, 110, 110, 101, 99, 116, 105, 111, 110]⟩, .string ⟨#[67, 111, 110, 116, 101, 110, 116, 45, 69, 110, 99, 111, 100, 105, 110, 103]⟩, .string ⟨#[67, 111, 110, 116, 101, 110, 116, 45, 76, 101, 110, 103, 116, 104]⟩, .string ⟨#[67, 111, 110, 116, 101, 110, 116, 45, 82, 97, 110, 103, 101]⟩, .string ⟨#[67, 111, 110, 116, 101, 110, 116, 45, 84, 121, 112, 101]⟩, .string ⟨#[67, 111, 111, 107, 105, 101]⟩, .string ⟨#[68, 97, 116, 101]⟩, .string ⟨#[69, 120, 112, 101, 99, 116]⟩, .string ⟨#[69, 120, 112, 105, 114, 101, 115]⟩, .string ⟨#[72, 111, 115, 116]⟩, .string ⟨#[73, 102, 45, 77, 97, 116, 99, 104]⟩, .string ⟨#[73, 102, 45, 77, 111, 100, 105, 102, 105, 101, 100, 45, 83, 105, 110, 99, 101]⟩, .string ⟨#[73, 102, 45, 78, 111, 110, 101, 45, 77, 97, 116, 99, 104]⟩, .string ⟨#[73, 102, 45, 82, 97, 110, 103, 101]⟩, .string ⟨#[73, 102, 45, 85, 110, 109, 111, 100, 105, 102, 105, 101, 100, 45, 83, 105, 110, 99, 101]⟩, .string ⟨#[75, 101, 101, 112, 45, 65, 108, 105, 118, 101]⟩, .string ⟨#[76, 111, 99, 97, 116, 105, 111, 110]⟩, .string ⟨#[77, 97, 120, 45, 70, 111, 114, 119, 97, 114, 100, 115]⟩, .string ⟨#[80, 114, 97, 103, 109, 97]⟩, .string ⟨#[80, 114, 111, 120, 121, 45, 65, 117, 116, 104, 101, 110, 116, 105, 99, 97, 116, 101]⟩, .string ⟨#[80, 114, 111, 120, 121, 45, 65, 117, 116, 104, 111, 114, 105, 122, 97, 116, 105, 111, 110]⟩, .string ⟨#[80, 114, 111, 120, 121, 45, 67, 111, 110, 110, 101, 99, 116, 105, 111, 110]⟩, .string ⟨#[82, 97, 110, 103, 101]⟩, .string ⟨#[82, 101, 116, 114, 121, 45, 65, 102, 116, 101, 114]⟩, .string ⟨#[83, 101, 116, 45, 67, 111, 111, 107, 105, 101]⟩, .string ⟨#[84, 69]⟩, .string ⟨#[84, 114, 97, 105, 108, 101, 114]⟩, .string ⟨#[84, 114, 97, 110, 115, 102, 101, 114, 45, 69, 110, 99, 111, 100, 105, 110, 103]⟩, .string ⟨#[85, 112, 103, 114, 97, 100, 101]⟩, .string ⟨#[86, 97, 114, 121]⟩, .string ⟨#[86, 105, 97]⟩, .string ⟨#[87, 87, 87, 45, 65, 117, 116, 104, 101, 110, 116, 105, 99, 97, 116, 101]⟩]
theorem trCells_eq : trCells = (trNames.map Value.string).toArray := rfl
def tHas (x : ByteArray) (ns : List ByteArray) : Bool := ns.any fun n => foldB n x
/-- P26.1. -/
def alwB (x : ByteArray) : Bool := tokenB x && !tHas x trNames
theorem tHas_take {x : ByteArray} {ns : List ByteArray} {k : Nat} (h : k < ns.length) : tHas x (ns.take (k + 1)) = (tHas x (ns.take k) || foldB ns[k] x) := by
  unfold tHas
  rw [List.take_succ_eq_append_getElem h, List.any_append]
  simp
theorem tHas_hit {x : ByteArray} {ns : List ByteArray} {k : Nat} (h : k < ns.length) (hf : foldB ns[k] x = true) : tHas x ns = true := List.any_eq_true.2 ⟨_, List.getElem_mem h, hf⟩
theorem rds_blk {w : World} {B : Nat} {t : TypeId} (l : List ByteArray) (n : Nat) (hn : l.length = n) (hm : n ≤ maxLen) (h : w.heap[B]? = some (.cells (l.map Value.string).toArray t (0, 0))) : RdS w (.slice (some ⟨B, 0, none⟩) n n) l := by
  subst hn
  refine ⟨_, _, rfl, Nat.le_refl _, hm, fun _ => ⟨B, 0, rfl, blk_lt h, fun j hj i hi => ?_⟩⟩
  have hi0 : i = 0 := by omega
  subst hi0
  have := blk_cell (i := j) h (v := .string l[j]) (by simp [hj])
  rw [show 0 + j * 1 + 0 = j from by omega]
  simpa [strC] using this
theorem tc1_any (n x : ByteArray) (bx : Nat) (w : World) (hc : w.cell? ⟨bx, 0, none⟩ = some (.string x)) (hn : n.size ≤ 100000) (hx : x.size ≤ 100000) :
    Calls Try.prog 73 #[.string n, .pointer (some ⟨bx, 0, none⟩)] w fun e w' => e = .returned (.bool (foldB n x)) ∧ Below w.heap.size w w' := by
  go_enter Try.func73, Try.ntmps73
  go_wp2_with fail
  refine (oct_fold_any _ _ _ (by omega) (by omega)).mono ?_
  rintro e w1 ⟨rfl, hb⟩
  go_wp2_with fail
  go_ret
  exact ⟨rfl, hb⟩
def TIdx (b : Bool) (w : World) (e : Ending) (w' : World) : Prop := ∃ r : Int, e = .returned (.int .i64 r) ∧ decide (0 ≤ r) = b ∧ Below w.heap.size w w'
set_option maxRecDepth 100000 in
set_option maxHeartbeats 2000000 in
theorem tix_any (v : Value) (ns : List ByteArray) (x : ByteArray) (bx : Nat) (w : World) (hv : RdS w v ns) (hc : w.cell? ⟨bx, 0, none⟩ = some (.string x)) (hbx : bx < w.heap.size) (hz : ∀ n ∈ ns, n.size ≤ 100000) (hx : x.size ≤ 100000) (hl : ns.length ≤ 1000000) :
    Calls Try.prog 101 #[v, .func (.func 73) #[] #[.pointer (some ⟨bx, 0, none⟩)]] w (TIdx (tHas x ns) w) := by
  have HV := Kp.mk hv
  have HZ := Kp.mk hz
  have HC := Kp.mk hc
  obtain ⟨a, cap, rfl, hc1, hc2, -⟩ := hv
  clear hz hc hc2
  go_enter Try.func101, Try.ntmps101
  go_wp2_with fail
  go_loopw [8] (fun i wr => ∃ k : Nat, k ≤ ns.length ∧ i = .int .i64 k ∧ tHas x (ns.take k) = false ∧ Below w.heap.size w wr) (fun i _ => ns.length - (intOf i).toNat)
  case atStart => exact ⟨0, by omega, rfl, rfl, Below.refl _ _⟩
  case round =>
    obtain ⟨k, hk, rfl, hh, hb⟩ := hrel
    have HB := Kp.mk hb
    have HH := Kp.mk hh
    have HCK := Kp.mk ((hb.cell (p := ⟨bx, 0, none⟩) hbx).trans HC.out)
    have hsz := hb.size
    clear hh hb
    by_cases hlt : k < ns.length
    · obtain ⟨g, o, rfl, hgl, d0⟩ := rds_cells (HV.out.below HB.out) (by omega)
      have c1 := d0 k hlt
      have m1 := HZ.out ns[k] (List.getElem_mem hlt)
      have q0 : (0 : Int) ≤ (k : Int) := by omega
      have q1 : (k : Int) < (ns.length : Int) := by omega
      have HT := Kp.mk (tHas_take (x := x) hlt)
      have HHit := Kp.mk (tHas_hit (x := x) hlt)
      clear d0
      generalize ns[k] = n at *
      go_wp2_with fail
      refine (tc1_any n x bx _ HCK.out m1 hx).mono ?_
      rintro e w2 ⟨rfl, hb2⟩
      have HB2 := Kp.mk (HB.out.trans (hb2.mono hsz))
      clear hb2
      cases hf : foldB n x
      · have HT2 := Kp.mk (show tHas x (ns.take (k + 1)) = false by rw [HT.out, hf, HH.out]; rfl)
        go_wp2_with fail
        go_roundw
        case rel => exact ⟨k + 1, by omega, by go_num, HT2.out, HB2.out⟩
        case measure => simp [intOf]; omega
      · have HT2 := Kp.mk (HHit.out hf)
        go_wp2_with fail
        go_ret
        exact ⟨_, rfl, by rw [HT2.out]; exact decide_eq_true (by omega), HB2.out⟩
    · have HK := Kp.mk (show tHas x ns = false by have := HH.out; rwa [List.take_of_length_le (by omega)] at this)
      go_wp2_with fail
      go_ret
      exact ⟨-1, rfl, by rw [HK.out]; rfl, HB.out⟩
theorem tcof_any (v : Value) (ns : List ByteArray) (x : ByteArray) (bx : Nat) (w : World) (hv : RdS w v ns) (hc : w.cell? ⟨bx, 0, none⟩ = some (.string x)) (hbx : bx < w.heap.size) (hz : ∀ n ∈ ns, n.size ≤ 100000) (hx : x.size ≤ 100000) (hl : ns.length ≤ 1000000) :
    Calls Try.prog 72 #[v, .func (.func 73) #[] #[.pointer (some ⟨bx, 0, none⟩)]] w fun e w' => e = .returned (.bool (tHas x ns)) ∧ Below w.heap.size w w' := by
  have HC := Kp.mk hc
  have HV := Kp.mk hv
  have HZ := Kp.mk hz
  clear hc hv hz
  go_enter Try.func72, Try.ntmps72
  go_wp2_with fail
  refine (tix_any v ns x bx _ HV.out HC.out hbx HZ.out hx hl).mono ?_
  rintro e w1 ⟨r, rfl, hr, hb⟩
  have HR := Kp.mk hr
  clear hr
  go_wp2_with fail
  go_ret
  exact ⟨by rw [← HR.out]; rfl, hb⟩
end Go.Proofs.Ytpgeheblmpjndaa
