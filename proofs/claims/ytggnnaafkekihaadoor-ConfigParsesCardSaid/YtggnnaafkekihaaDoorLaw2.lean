/- Layer 2: the walks of the two laws. -/
import Derived.Test.YtggnnaafkekihaaDoorTxt
import Derived.OpenShut
import Derived.Deep.QuietTactic
import Derived.BigQuiet
namespace Go.Proofs.YtggnnaafkekihaaDoor
open Go.RowKit
set_option linter.unusedVariables false
set_option linter.unusedSimpArgs false

theorem extract_le (s : ByteArray) (n : Nat) : (s.extract 0 n).size ≤ n := by
  rw [ba_size, Lib.extract_data]; simp; omega

/-- A number comes back from its digits. -/
theorem num_back (b wide n : Nat) (most : Int) (hb : 10 ≤ b) (hb2 : b ≤ 16) (hw : 1 ≤ wide) (hn : n < 18446744073709551616) :
    ((n : Int) ≤ most → numV b (ofL (wdig b wide n)) most = n ∧ numE b (ofL (wdig b wide n)) most = 0) ∧
    (most < n → numV b (ofL (wdig b wide n)) most = 0 ∧ numE b (ofL (wdig b wide n)) most = 5) := by
  have hd : (ofL (wdig b wide n)).data.toList = wdig b wide n := by simp [ofL]
  have h0 : (ofL (wdig b wide n)).size ≠ 0 := by
    rw [ba_size, hd]
    intro h
    exact wdig_ne b wide n hw (List.length_eq_zero_iff.1 h)
  have hok : ∀ j, j < (ofL (wdig b wide n)).size → digV (bt (ofL (wdig b wide n)) j) < b := by
    intro j hj
    rw [← bt_list _ j hj]
    have hmem : ∀ c ∈ (ofL (wdig b wide n)).data.toList, digV c.toNat < b := fun c hc => wdig_ok b wide n hb hb2 c (by rw [← hd]; exact hc)
    exact hmem _ (List.getElem_mem _)
  have hv : valN b (ofL (wdig b wide n)).data.toList = n := by rw [hd]; exact wdig_val b wide n hb hb2 hn
  refine ⟨fun h => ?_, fun h => ?_⟩
  · obtain ⟨e1, e2⟩ := num_fits h0 hok (most := most) (by rw [hv]; exact h)
    exact ⟨by rw [e2, hv], e1⟩
  · obtain ⟨e1, e2⟩ := num_great h0 hok (most := most) (by rw [hv]; exact h)
    exact ⟨e2, e1⟩

end Go.Proofs.YtggnnaafkekihaaDoor
