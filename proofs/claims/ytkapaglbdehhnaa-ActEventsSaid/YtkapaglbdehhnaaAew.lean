/- Steps of scripts (layer 44): the law ActEvents, whole. -/
import Derived.Test.YtkapaglbdehhnaaAev
namespace Go.Proofs.Ytkapaglbdehhnaa
open Go.RowKit
theorem aevents_walk (c o n : Int) (s : ByteArray) (w : World) :
    Calls Try.prog 10 #[.agg #[.int .i64 c, .int .i64 o], .int .i64 n, .string s] w fun e w' => e = .returned (.bool true) ∧ Below w.heap.size w w' := by
  by_cases h : s.size ≤ 6000
  · exact aevents_core c o n s s w (.inl ⟨h, rfl⟩)
  · exact aevents_core c o n s _ w (.inr ⟨h, rfl⟩)
end Go.Proofs.Ytkapaglbdehhnaa
