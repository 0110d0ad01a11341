/- First lines (layer 15): the reason of a status, the document's. -/
import Derived.Test.YtcbfhlnnfnpkdaaGreatDoorStb
namespace Go.Proofs.YtcbfhlnnfnpkdaaGreatDoor
open Go.RowKit
set_option linter.unusedVariables false
set_option linter.unusedSimpArgs false

def rsnI : Array Value := #[.int .i64 100, .int .i64 400, .int .i64 408, .int .i64 413, .int .i64 417, .int .i64 431, .int .i64 501, .int .i64 502, .int .i64 504, .int .i64 505, .int .i64 508]
def rsnT : Array Value := #[.string ⟨#[67, 111, 110, 116, 105, 110, 117, 101]⟩, .string ⟨#[66, 97, 100, 32, 82, 101, 113, 117, 101, 115, 116]⟩, .string ⟨#[82, 101, 113, 117, 101, 115, 116, 32, 84, 105, 109, 101, 111, 117, 116]⟩, .string ⟨#[67, 111, 110, 116, 101, 110, 116, 32, 84, 111, 111, 32, 76, 97, 114, 103, 101]⟩, .string ⟨#[69, 120, 112, 101, 99, 116, 97, 116, 105, 111, 110, 32, 70, 97, 105, 108, 101, 100]⟩, .string ⟨#[82, 101, 113, 117, 101, 115, 116, 32, 72, 101, 97, 100, 101, 114, 32, 70, 105, 101, 108, 100, 115, 32, 84, 111, 111, 32, 76, 97, 114, 103, 101]⟩, .string ⟨#[78, 111, 116, 32, 73, 109, 112, 108, 101, 109, 101, 110, 116, 101, 100]⟩, .string ⟨#[66, 97, 100, 32, 71, 97, 116, 101, 119, 97, 121]⟩, .string ⟨#[71, 97, 116, 101, 119, 97, 121, 32, 84, 105, 109, 101, 111, 117, 116]⟩, .string ⟨#[72, 84, 84, 80, 32, 86, 101, 114, 115, 105, 111, 110, 32, 78, 111, 116, 32, 83, 117, 112, 112, 111, 114, 116, 101, 100]⟩, .string ⟨#[76, 111, 111, 112, 32, 68, 101, 116, 101, 99, 116, 101, 100]⟩]
def RsnRel (s : Int) (w : World) (i : Value) (wr : World) : Prop :=
  ∃ k : Nat, k ≤ 11 ∧ i = .int .i64 k ∧ wr.heap[w.heap.size]? = some (.cells rsnI 3 (0, 0)) ∧ wr.heap[w.heap.size + 1]? = some (.cells rsnT 9 (0, 0)) ∧ Below w.heap.size w wr ∧ ∀ j : Nat, j < k → rsnI[j]? ≠ some (.int .i64 s)
end Go.Proofs.YtcbfhlnnfnpkdaaGreatDoor
