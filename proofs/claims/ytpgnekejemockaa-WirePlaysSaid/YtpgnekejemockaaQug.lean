/- Octets that wait: the document's queue; the law QueuePlays (layer 3). -/
import Derived.Test.YtpgnekejemockaaQuf
import Derived.Deep.RegionWith
import Derived.Deep.RegionHeld3
import Derived.RegionTactic
import Derived.ChangeAlike
namespace Go.Proofs.Ytpgnekejemockaa
open Go.RowKit
set_option linter.unusedVariables false
set_option linter.unusedSimpArgs false

theorem extr_oB (S : List UInt8) (u : Nat) : (oB S).extract u (oB S).size = oB (S.drop u) := by
  have h9 : ((oB S).extract u (oB S).size).data.toList = (oB (S.drop u)).data.toList := by
    rw [Lib.extract_data, oB_list, oB_list, List.take_of_length_le (by rw [List.length_drop, oB_size]; omega)]
  cases hh : (oB S).extract u (oB S).size with
  | mk d => cases hh2 : oB (S.drop u) with | mk d2 => rw [hh, hh2] at h9; simp at h9; rw [h9]
theorem oB_snoc (S : List UInt8) (s : ByteArray) (k : Nat) (h : k < s.size) : oB (S ++ s.data.toList.take k) ++ s.extract k (k + 1) = oB (S ++ s.data.toList.take (k + 1)) := by
  have h9 : (oB (S ++ s.data.toList.take k) ++ s.extract k (k + 1)).data.toList = (oB (S ++ s.data.toList.take (k + 1))).data.toList := by
    rw [cat_app, oB_list, oB_list, Lib.extract_data, List.take_succ_eq_append_getElem (by simpa using h), List.append_assoc]
    congr 2
    rw [List.drop_eq_getElem_cons (by simpa using h), show k + 1 - k = 1 by omega]
    rfl
  cases hh : oB (S ++ s.data.toList.take k) ++ s.extract k (k + 1) with
  | mk d => cases hh2 : oB (S ++ s.data.toList.take (k + 1)) with | mk d2 => rw [hh, hh2] at h9; simp at h9; rw [h9]
end Go.Proofs.Ytpgnekejemockaa
