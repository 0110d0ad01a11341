/- Trailers (layer 26): which names are allowed, the document's. -/
import Derived.Test.YtpgeheblmpjndaaTrb
import Derived.Test.YtpgeheblmpjndaaOctr
import Derived.Test.YtpgeheblmpjndaaQs
import Derived.Great.Walk
namespace Go.Proofs.Ytpgeheblmpjndaa
open Go.RowKit
set_option linter.unusedVariables false
set_option linter.unusedSimpArgs false

def rtNames : List ByteArray := [⟨#[97, 103, 101]⟩, ⟨#[97, 117, 116, 104, 111, 114, 105, 122, 97, 116, 105, 111, 110]⟩, ⟨#[99, 97, 99, 104, 101, 45, 99, 111, 110, 116, 114, 111, 108]⟩, ⟨#[99, 111, 110, 110, 101, 99, 116, 105, 111, 110]⟩, ⟨#[99, 111, 110, 116, 101, 110, 116, 45, 101, 110, 99, 111, 100, 105, 110, 103]⟩, ⟨#[99, 111, 110, 116, 101, 110, 116, 45, 108, 101, 110, 103, 116, 104]⟩, ⟨#[99, 111, 110, 116, 101, 110, 116, 45, 114, 97, 110, 103, 101]⟩, ⟨#[99, 111, 110, 116, 101, 110, 116, 45, 116, 121, 112, 101]⟩, ⟨#[99, 111, 111, 107, 105, 101]⟩, ⟨#[100, 97, 116, 101]⟩, ⟨#[101, 120, 112, 101, 99, 116]⟩, ⟨#[101, 120, 112, 105, 114, 101, 115]⟩, ⟨#[104, 111, 115, 116]⟩, ⟨#[105, 102, 45, 109, 97, 116, 99, 104]⟩, ⟨#[105, 102, 45, 109, 111, 100, 105, 102, 105, 101, 100, 45, 115, 105, 110, 99, 101]⟩, ⟨#[105, 102, 45, 110, 111, 110, 101, 45, 109, 97, 116, 99, 104]⟩, ⟨#[105, 102, 45, 114, 97, 110, 103, 101]⟩, ⟨#[105, 102, 45, 117, 110, 109, 111, 100, 105, 102, 105, 101, 100, 45, 115, 105, 110, 99, 101]⟩, ⟨#[107, 101, 101, 112, 45, 97, 108, 105, 118, 101]⟩, ⟨#[108, 111, 99, 97, 116, 105, 111, 110]⟩, ⟨#[109, 97, 120, 45, 102, 111, 114, 119, 97, 114, 100, 115]⟩, ⟨#[112, 114, 97, 103, 109, 97]⟩, ⟨#[112, 114, 111, 120, 121, 45, 97, 117, 116, 104, 101, 110, 116, 105, 99, 97, 116, 101]⟩, ⟨#[112, 114, 111, 120, 121, 45, 97, 117, 116, 104, 111, 114, 105, 122, 97, 116, 105, 111, 110]⟩, ⟨#[112, 114, 111, 120, 121, 45, 99, 111, 110, 110, 101, 99, 116, 105, 111, 110]⟩, ⟨#[114, 97, 110, 103, 101]⟩, ⟨#[114, 101, 116, 114, 121, 45, 97, 102, 116, 101, 114]⟩, ⟨#[115, 101, 116, 45, 99, 111, 111, 107, 105, 101]⟩, ⟨#[116, 101]⟩, ⟨#[116, 114, 97, 105, 108, 101, 114]⟩, ⟨#[116, 114, 97, 110, 115, 102, 101, 114, 45, 101, 110, 99, 111, 100, 105, 110, 103]⟩, ⟨#[117, 112, 103, 114, 97, 100, 101]⟩, ⟨#[118, 97, 114, 121]⟩, ⟨#[118, 105, 97]⟩, ⟨#[119, 119, 119, 45, 97, 117, 116, 104, 101, 110, 116, 105, 99, 97, 116, 101]⟩]
def rtCells : Array Value := #[.string ⟨#[97, 103, 101]⟩, .string ⟨#[97, 117, 116, 104, 111, 114, 105, 122, 97, 116, 105, 111, 110]⟩, .string ⟨#[99, 97, 99, 104, 101, 45, 99, 111, 110, 116, 114, 111, 108]⟩, .string ⟨#[99, 111, 110, 110, 101, 99, 116, 105, 111, 110]⟩, .string ⟨#[99, 111, 110, 116, 101, 110, 116, 45, 101, 110, 99, 111, 100, 105, 110, 103]⟩, .string ⟨#[99, 111, 110, 116, 101, 110, 116, 45, 108, 101, 110, 103, 116, 104]⟩, .string ⟨#[99, 111, 110, 116, 101, 110, 116, 45, 114, 97, 110, 103, 101]⟩, .string ⟨#[99, 111, 110, 116, 101, 110, 116, 45, 116, 121, 112, 101]⟩, .string ⟨#[99, 111, 111, 107, 105, 101]⟩, .string ⟨#[100, 97, 116, 101]⟩, .string ⟨#[101, 120, 112, 101, 99, 116]⟩, .string ⟨#[101, 120, 112, 105, 114, 101, 115]⟩, .string ⟨#[104, 111, 115, 116]⟩, .string ⟨#[105, 102, 45, 109, 97, 116, 99, 104]⟩, .string ⟨#[105, 102, 45, 109, 111, 100, 105, 102, 105, 101, 100, 45, 115, 105, 110, 99, 101]⟩, .string ⟨#[105, 102, 45, 110, 111, 110, 101, 45, 109, 97, 116, 99, 104]⟩, .string ⟨#[105, 102, 45, 114, 97, 110, 103, 101]⟩, .string ⟨#[105, 102, 45, 117, 110, 109, 111, 100, 105, 102, 105, 101, 100, 45, 115, 105, 110, 99, 101]⟩, .string ⟨#[107, 101, 101, 112, 45, 97, 108, 105, 118, 101]⟩, .string ⟨#[108, 111, 99, 97, 116, 105, 111, 110]⟩, .string ⟨#[109, 97, 120, 45, 102, 111, 114, 119, 97, 114, 100, 115]⟩, .string ⟨#[112, 114, 97, 103, 109, 97]⟩, .string ⟨#[112, 114, 111, 120, 121, 45, 97, 117, 116, 104, 101, 110, 116, 105, 99, 97, 116, 101]⟩, .string ⟨#[112, 114, 111, 120, 121, 45, 97, 117, 116, 104, 111, 114, 105, 122, 97, 116, 105, 111, 110]⟩, .string ⟨#[112, 114, 111, 120, 121, 45, 99, 111, 110, 110, 101, 99, 116, 105, 111, 110]⟩, .string ⟨#[114, 97, 110, 103, 101]⟩, .string ⟨#[114, 101, 116, 114, 121, 45, 97, 102, 116, 101, 114]⟩, .string ⟨#[115, 101, 116, 45, 99, 111, 111, 107, 105, 101]⟩, .string ⟨#[116, 101]⟩, .string ⟨#[116, 114, 97, 105, 108, 101, 114]⟩, .string ⟨#[116, 114, 97, 110, 115, 102, 101, 114, 45, 101, 110, 99, 111, 100, 105, 110, 103]⟩, .string ⟨#[117, 112, 103, 114, 97, 100, 101]⟩, .string ⟨#[118, 97, 114, 121]⟩, .string ⟨#[118, 105, 97]⟩, .string ⟨#[119, 119, 119, 45, 97, 117, 116, 104, 101, 110, 116, 105, 99, 97, 116, 101]⟩]
theorem rtNames_low : rtNames = trNames.map lowB := by decide +kernel
def rHas (x : ByteArray) (l : List ByteArray) : Bool := l.any fun n => n.toList == (lowB x).toList
theorem rHas_eq (x : ByteArray) : rHas x rtNames = tHas x trNames := by
  unfold rHas tHas
  rw [rtNames_low, List.any_map]
  rfl
theorem rHas_take {x : ByteArray} {l : List ByteArray} {k : Nat} (h : k < l.length) : rHas x (l.take (k + 1)) = (rHas x (l.take k) || (l[k].toList == (lowB x).toList)) := by
  unfold rHas
  rw [List.take_succ_eq_append_getElem h, List.any_append]
  simp
theorem rHas_hit {x : ByteArray} {l : List ByteArray} {k : Nat} (h : k < l.length) (hf : (l[k].toList == (lowB x).toList) = true) : rHas x l = true := List.any_eq_true.2 ⟨_, List.getElem_mem h, hf⟩
/-- The names' block stands. -/
structure NBx (w w' : World) : Prop where
  box : w'.heap[w.heap.size]? = some (.cells rtCells 9 (0, 0))
  bel : Below w.heap.size w w'
theorem NBx.below {w w' w2 : World} (h : NBx w w') (hb : Below w'.heap.size w' w2) : NBx w w2 := ⟨(hb.block _ (blk_lt h.box)).trans h.box, h.bel.trans (hb.mono h.bel.size)⟩
theorem NBx.cell {w w' : World} (h : NBx w w') {k : Nat} (hk : k < rtNames.length) : w'.cell? ⟨w.heap.size, k, none⟩ = some (.string rtNames[k]) := by
  have e : rtCells = (rtNames.map Value.string).toArray := rfl
  have hb := h.box
  rw [e] at hb
  exact blk_cell (i := k) hb (by simp [hk])
def NMid (w : World) (s3 : Value) (wx : World) : Prop := s3 = .slice (some ⟨w.heap.size, 0, none⟩) 35 35 ∧ NBx w wx
theorem nmid_new (w : World) : NMid w (.slice (some ⟨w.heap.size, 0, none⟩) 35 35) (w.alloc (.cells rtCells 9)) := ⟨rfl, heap_alloc_new w _, (Below.refl _ _).alloc (Nat.le_refl _) _⟩
set_option maxRecDepth 100000 in
set_option maxHeartbeats 1000000 in
theorem rallowed_any (x : ByteArray) (w : World) (hx : x.size ≤ 100000) : Calls Try.prog 28 #[.string x] w fun e w' => e = .returned (.bool (alwB x)) ∧ Below w.heap.size w w' := by
  have HA := Kp.mk (nmid_new w)
  go_enter Try.func28, Try.ntmps28
  go_upto_region 1 with fail
  go_cut [3] (NMid w)
  case first =>
    refine wp_region_list ?_
    refine Great.wpList_allocTo rfl (some 5) rfl (.slice (some ⟨w.heap.size, 0, none⟩) 35 35) (.cells rtCells 9) (by kernel_rfl) ?_
    go_wp2_with fail
    go_meet
    exact HA.out
  case rest =>
    obtain ⟨rfl, hn⟩ := hcut
    have HN := Kp.mk hn
    have HLN := Kp.mk (show rtNames.length = 35 from rfl)
    clear HA hn
    go_wp2_with fail
    go_loopw [4] (fun i wr => ∃ k : Nat, k ≤ 35 ∧ i = .int .i64 k ∧ rHas x (rtNames.take k) = false ∧ NBx w wr) (fun i _ => 35 - (intOf i).toNat)
    case atStart => exact ⟨0, by omega, rfl, rfl, HN.out⟩
    case round =>
      obtain ⟨k, hk, rfl, hh, hb⟩ := hrel
      have HH := Kp.mk hh
      have HB := Kp.mk hb
      clear hh hb
      by_cases hlt : k < 35
      · have hk2 : k < rtNames.length := by rw [HLN.out]; exact hlt
        have HT := Kp.mk (rHas_take (x := x) hk2)
        have HHit := Kp.mk (rHas_hit (x := x) hk2)
        have q0 : (0 : Int) ≤ (k : Int) := by omega
        have q1 : (k : Int) < 35 := by omega
        have p0 := fun p : InS (NBx w) => p.ok.cell hk2
        have HD := Kp.mk (HB.out.below (gdrewN wr 1))
        haveI hne : Nonempty (InS (NBx w)) := ⟨⟨_, HB.out⟩⟩
        generalize rtNames[k] = n at *
        go_wp2_with fail
        refine region_in _ (by kernel_rfl) (by kernel_rfl) HD.out ?_
        repeat (go_big_quiet_step (first
          | (go_at_call 74; exact call_in fun w h => (ref_lower_any x w (by omega)).mono fun _ _ h2 => ⟨h2.1, h.below h2.2⟩)))
        refine wpQuiet_nil ?_
        intro _ hw'
        obtain ⟨wq, rfl⟩ := hw'
        have HQ := Kp.mk wq.ok
        cases hc : (n.toList == (lowB x).toList)
        · have HT2 := Kp.mk (show rHas x (rtNames.take (k + 1)) = false by rw [HT.out, hc, HH.out]; rfl)
          go_wp2_with fail
          go_roundw
          case rel => exact ⟨k + 1, by omega, by go_num, HT2.out, HQ.out⟩
          case measure => simp [intOf]; omega
        · have HR := Kp.mk (show alwB x = false by unfold alwB; rw [← rHas_eq, HHit.out hc]; simp)
          go_wp2_with fail
          go_ret
          exact ⟨by rw [HR.out]; rfl, HQ.out.bel⟩
      · have HR := Kp.mk (show alwB x = tokenB x by
          have h9 := HH.out
          rw [List.take_of_length_le (by rw [HLN.out]; omega)] at h9
          unfold alwB
          rw [← rHas_eq, h9]
          simp)
        go_wp2_with fail
        refine (ref_token_any x _ (by unfold maxLen; omega)).mono ?_
        rintro e w1 ⟨rfl, rfl⟩
        go_wp2_with fail
        go_ret
        exact ⟨by rw [HR.out]; rfl, HB.out.bel⟩
end Go.Proofs.Ytpgeheblmpjndaa
