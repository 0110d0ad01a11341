/-
  No cell of these rows narrows 'for every input' (looked for: loops, veiled, ifaces, maps, wideKeys, modest, calm, conditions, laid).
  DERIVED. THE GIVEN ROWS OF THIS SEAT. 8 by the template 'for every input the law returns true; each argument reads behind the call as it read before'; 0 by the template 'total and deterministic' (their statements: YtpgeheblmpjndaaTotals.lean).
  GIVEN WITH THE SEED: the statements are not yours to turn. If you find one false, say at which input.
  Laid BY PROGRAM, IN A SANDBOX (cutbox-rows.mjs): the forced cells as the released guide's own fill.sh prints them over the translation fb46e111154df56f… (all of the seat's roots in one cut). By AI agents, Wed Nov 11 2026. No macro, syntax, notation, axiom, sorry.
-/
import Derived.Test.YtpgeheblmpjndaaChecked
import GoSem.Claim
import GoSem.ClaimJoined
import GoSem.ClaimMapViews
import Derived.JoinedTies
import Derived.KernelRfl
namespace Go.Proofs.Ytpgeheblmpjndaa
/- THE CELL 'sum', in the pinned program and in every row, IS THE sha256 OF THE DUMP (.gsa) THAT YtpgeheblmpjndaaProg.lean LOADS. Nothing in Lean hashes anything: it is a label: what it is worth is what the hold of that sum in a sandbox is worth. -/
noncomputable def Try.pinned : Pinned := { name := "ytpgeheblmpjndaa", sum := "fb46e111154df56fb90d64853a5e0336bd3b3728f0879b8df93964b3e41126b2", checked := Try.checked }
namespace Rows
def none {H : Type} : Left H := { results := [], args := [] }

/-- 'abutmentlaw15.StartLines': WHATEVER THE INPUT: true; the input reads as it did. -/
def startLinesSpec : ChangeSpec := { name := "startLines", fn := fun _ => fun
  | [d] => { results := [.lit (.bool true)], args := [d] }
  | _ => none }
def startLinesRow : OpenClaim := { program := "ytpgeheblmpjndaa", sum := "fb46e111154df56fb90d64853a5e0336bd3b3728f0879b8df93964b3e41126b2", func := "abutment/abutmentlaw15.StartLines", spec := "startLines", inPlace := ["internal/bytealg.IndexByteString", "internal/bytealg.IndexString", "internal/bytealg.CountString"], unfollowed := true, recurses := true, named := ["internal/bytealg.MaxLen"], apart := false }
def StartLinesSaid : Prop := startLinesRow.holds Try.pinned (OpenSpec.ofChange startLinesSpec)

/-- ITS FALSE NEIGHBOUR: 'it returns false'. Refute it at one input. -/
def startLinesWrong : ChangeSpec := { name := "startLines", fn := fun _ => fun
  | [d] => { results := [.lit (.bool false)], args := [d] }
  | _ => none }
def StartLinesWrongFalsely : Prop := startLinesRow.holds Try.pinned (OpenSpec.ofChange startLinesWrong)

/-- 'abutmentlaw15.StartRequests': WHATEVER THE INPUT: true; the input reads as it did. -/
def startRequestsSpec : ChangeSpec := { name := "startRequests", fn := fun _ => fun
  | [d] => { results := [.lit (.bool true)], args := [d] }
  | _ => none }
def startRequestsRow : OpenClaim := { program := "ytpgeheblmpjndaa", sum := "fb46e111154df56fb90d64853a5e0336bd3b3728f0879b8df93964b3e41126b2", func := "abutment/abutmentlaw15.StartRequests", spec := "startRequests", inPlace := ["internal/bytealg.IndexByteString", "internal/bytealg.IndexString", "internal/bytealg.CountString"], unfollowed := true, recurses := true, named := ["internal/bytealg.MaxLen"], apart := false }
def StartRequestsSaid : Prop := startRequestsRow.holds Try.pinned (OpenSpec.ofChange startRequestsSpec)

/-- ITS FALSE NEIGHBOUR: 'it returns false'. Refute it at one input. -/
def startRequestsWrong : ChangeSpec := { name := "startRequests", fn := fun _ => fun
  | [d] => { results := [.lit (.bool false)], args := [d] }
  | _ => none }
def StartRequestsWrongFalsely : Prop := startRequestsRow.holds Try.pinned (OpenSpec.ofChange startRequestsWrong)

/-- 'abutmentlaw15.StartStatuses': WHATEVER THE INPUT: true; the input reads as it did. -/
def startStatusesSpec : ChangeSpec := { name := "startStatuses", fn := fun _ => fun
  | [d1, d2] => { results := [.lit (.bool true)], args := [d1, d2] }
  | _ => none }
def startStatusesRow : OpenClaim := { program := "ytpgeheblmpjndaa", sum := "fb46e111154df56fb90d64853a5e0336bd3b3728f0879b8df93964b3e41126b2", func := "abutment/abutmentlaw15.StartStatuses", spec := "startStatuses", inPlace := ["internal/bytealg.IndexByteString", "internal/bytealg.IndexString", "internal/bytealg.CountString"], unfollowed := true, recurses := true, named := ["internal/bytealg.MaxLen"], apart := false }
def StartStatusesSaid : Prop := startStatusesRow.holds Try.pinned (OpenSpec.ofChange startStatusesSpec)

/-- ITS FALSE NEIGHBOUR: 'it returns false'. Refute it at one input. -/
def startStatusesWrong : ChangeSpec := { name := "startStatuses", fn := fun _ => fun
  | [d1, d2] => { results := [.lit (.bool false)], args := [d1, d2] }
  | _ => none }
def StartStatusesWrongFalsely : Prop := startStatusesRow.holds Try.pinned (OpenSpec.ofChange startStatusesWrong)

/-- 'abutmentlaw15.StartBack': WHATEVER THE INPUT: true; the input reads as it did. -/
def startBackSpec : ChangeSpec := { name := "startBack", fn := fun _ => fun
  | [d] => { results := [.lit (.bool true)], args := [d] }
  | _ => none }
def startBackRow : OpenClaim := { program := "ytpgeheblmpjndaa", sum := "fb46e111154df56fb90d64853a5e0336bd3b3728f0879b8df93964b3e41126b2", func := "abutment/abutmentlaw15.StartBack", spec := "startBack", inPlace := ["internal/bytealg.IndexByteString", "internal/bytealg.IndexString", "internal/bytealg.CountString"], unfollowed := true, recurses := true, named := ["internal/bytealg.MaxLen"], apart := false }
def StartBackSaid : Prop := startBackRow.holds Try.pinned (OpenSpec.ofChange startBackSpec)

/-- ITS FALSE NEIGHBOUR: 'it returns false'. Refute it at one input. -/
def startBackWrong : ChangeSpec := { name := "startBack", fn := fun _ => fun
  | [d] => { results := [.lit (.bool false)], args := [d] }
  | _ => none }
def StartBackWrongFalsely : Prop := startBackRow.holds Try.pinned (OpenSpec.ofChange startBackWrong)

/-- 'abutmentlaw26.TrailerKeeps': WHATEVER THE INPUT: true; the input reads as it did. -/
def trailerKeepsSpec : ChangeSpec := { name := "trailerKeeps", fn := fun _ => fun
  | [d1, d2, d3] => { results := [.lit (.bool true)], args := [d1, d2, d3] }
  | _ => none }
def trailerKeepsRow : OpenClaim := { program := "ytpgeheblmpjndaa", sum := "fb46e111154df56fb90d64853a5e0336bd3b3728f0879b8df93964b3e41126b2", func := "abutment/abutmentlaw26.TrailerKeeps", spec := "trailerKeeps", unfollowed := true, recurses := true, apart := false }
def TrailerKeepsSaid : Prop := trailerKeepsRow.holds Try.pinned (OpenSpec.ofChange trailerKeepsSpec)

/-- ITS FALSE NEIGHBOUR: 'it returns false'. Refute it at one input. -/
def trailerKeepsWrong : ChangeSpec := { name := "trailerKeeps", fn := fun _ => fun
  | [d1, d2, d3] => { results := [.lit (.bool false)], args := [d1, d2, d3] }
  | _ => none }
def TrailerKeepsWrongFalsely : Prop := trailerKeepsRow.holds Try.pinned (OpenSpec.ofChange trailerKeepsWrong)

/-- 'abutmentlaw26.TrailerMerges': WHATEVER THE INPUT: true; the input reads as it did. -/
def trailerMergesSpec : ChangeSpec := { name := "trailerMerges", fn := fun _ => fun
  | [d1, d2] => { results := [.lit (.bool true)], args := [d1, d2] }
  | _ => none }
def trailerMergesRow : OpenClaim := { program := "ytpgeheblmpjndaa", sum := "fb46e111154df56fb90d64853a5e0336bd3b3728f0879b8df93964b3e41126b2", func := "abutment/abutmentlaw26.TrailerMerges", spec := "trailerMerges", unfollowed := true, recurses := true, apart := false }
def TrailerMergesSaid : Prop := trailerMergesRow.holds Try.pinned (OpenSpec.ofChange trailerMergesSpec)

/-- ITS FALSE NEIGHBOUR: 'it returns false'. Refute it at one input. -/
def trailerMergesWrong : ChangeSpec := { name := "trailerMerges", fn := fun _ => fun
  | [d1, d2] => { results := [.lit (.bool false)], args := [d1, d2] }
  | _ => none }
def TrailerMergesWrongFalsely : Prop := trailerMergesRow.holds Try.pinned (OpenSpec.ofChange trailerMergesWrong)

/-- 'abutmentlaw50.CanonNames': WHATEVER THE INPUT: true; the input reads as it did. -/
def canonNamesSpec : ChangeSpec := { name := "canonNames", fn := fun _ => fun
  | [d] => { results := [.lit (.bool true)], args := [d] }
  | _ => none }
def canonNamesRow : OpenClaim := { program := "ytpgeheblmpjndaa", sum := "fb46e111154df56fb90d64853a5e0336bd3b3728f0879b8df93964b3e41126b2", func := "abutment/abutmentlaw50.CanonNames", spec := "canonNames", inPlace := ["internal/abi.NoEscape", "internal/bytealg.MakeNoZero"], unfollowed := true, recurses := true, apart := false }
def CanonNamesSaid : Prop := canonNamesRow.holds Try.pinned (OpenSpec.ofChange canonNamesSpec)

/-- ITS FALSE NEIGHBOUR: 'it returns false'. Refute it at one input. -/
def canonNamesWrong : ChangeSpec := { name := "canonNames", fn := fun _ => fun
  | [d] => { results := [.lit (.bool false)], args := [d] }
  | _ => none }
def CanonNamesWrongFalsely : Prop := canonNamesRow.holds Try.pinned (OpenSpec.ofChange canonNamesWrong)

/-- 'abutmentlaw36.PlanFits': WHATEVER THE INPUT: true; the input reads as it did. -/
def planFitsSpec : ChangeSpec := { name := "planFits", fn := fun _ => fun
  | [d1, d2, d3] => { results := [.lit (.bool true)], args := [d1, d2, d3] }
  | _ => none }
def planFitsRow : OpenClaim := { program := "ytpgeheblmpjndaa", sum := "fb46e111154df56fb90d64853a5e0336bd3b3728f0879b8df93964b3e41126b2", func := "abutment/abutmentlaw36.PlanFits", spec := "planFits", unfollowed := true, recurses := true, apart := false }
def PlanFitsSaid : Prop := planFitsRow.holds Try.pinned (OpenSpec.ofChange planFitsSpec)

/-- ITS FALSE NEIGHBOUR: 'it returns false'. Refute it at one input. -/
def planFitsWrong : ChangeSpec := { name := "planFits", fn := fun _ => fun
  | [d1, d2, d3] => { results := [.lit (.bool false)], args := [d1, d2, d3] }
  | _ => none }
def PlanFitsWrongFalsely : Prop := planFitsRow.holds Try.pinned (OpenSpec.ofChange planFitsWrong)

/- THE SECOND FORM. 'bulk': how many values and letters a reading holds, each counted each time it is reached (what is shared counts as often as it is met; a slice's spare places count too). A statement '..UptoSaid' is the law's where the arguments, and the package variables that the reading takes, are together of bulk at most 1048576: NARROWER than '..Said'. Prove '..Said' where nothing that the law and all that it calls make is longer than what came in: it says more and counts as full. Else prove '..UptoSaid'. A law counts once. -/
mutual
def uptoBulk {H : Type} : DataW H → Nat
  | .lit (.string bytes) => bytes.length + 1
  | .lit _ => 1
  | .nil => 1
  | .ptr d => uptoBulk d + 1
  | .slice elems spare => uptoBulkAll elems + uptoBulkAll spare + 1
  | .agg parts => uptoBulkAll parts + 1
  | .iface _ d => uptoBulk d + 1
  | .map entries => uptoBulkEntries entries + 1
  | .held _ => 1
def uptoBulkAll {H : Type} : List (DataW H) → Nat
  | [] => 0
  | d :: r => uptoBulk d + uptoBulkAll r
def uptoBulkEntries {H : Type} : List (Lit × DataW H) → Nat
  | [] => 0
  | x :: r => uptoBulkEntry x + uptoBulkEntries r
def uptoBulkEntry {H : Type} : Lit × DataW H → Nat
  | (.string bytes, d) => bytes.length + uptoBulk d + 1
  | (_, d) => uptoBulk d + 1
 end
def uptoSmall : (H : Type) → List (DataW H) → Bool := fun _ ds => decide (uptoBulkAll ds ≤ 1048576)
def OpenSpec.upto (s : _root_.Go.ChangeSpec) : _root_.Go.OpenSpec := { _root_.Go.OpenSpec.ofChange s with cond := some uptoSmall }

/-- 'abutmentlaw15.StartLines', WHERE WHAT IT READS IS OF BULK AT MOST 1048576: true; the input reads as it did. -/
def startLinesUptoRow : OpenClaim := { program := "ytpgeheblmpjndaa", sum := "fb46e111154df56fb90d64853a5e0336bd3b3728f0879b8df93964b3e41126b2", func := "abutment/abutmentlaw15.StartLines", spec := "startLines", inPlace := ["internal/bytealg.IndexByteString", "internal/bytealg.IndexString", "internal/bytealg.CountString"], unfollowed := true, recurses := true, named := ["internal/bytealg.MaxLen"], apart := false, narrowed := true }
def StartLinesUptoSaid : Prop := startLinesUptoRow.holds Try.pinned (OpenSpec.upto startLinesSpec)

/-- 'abutmentlaw15.StartRequests', WHERE WHAT IT READS IS OF BULK AT MOST 1048576: true; the input reads as it did. -/
def startRequestsUptoRow : OpenClaim := { program := "ytpgeheblmpjndaa", sum := "fb46e111154df56fb90d64853a5e0336bd3b3728f0879b8df93964b3e41126b2", func := "abutment/abutmentlaw15.StartRequests", spec := "startRequests", inPlace := ["internal/bytealg.IndexByteString", "internal/bytealg.IndexString", "internal/bytealg.CountString"], unfollowed := true, recurses := true, named := ["internal/bytealg.MaxLen"], apart := false, narrowed := true }
def StartRequestsUptoSaid : Prop := startRequestsUptoRow.holds Try.pinned (OpenSpec.upto startRequestsSpec)

/-- 'abutmentlaw15.StartStatuses', WHERE WHAT IT READS IS OF BULK AT MOST 1048576: true; the input reads as it did. -/
def startStatusesUptoRow : OpenClaim := { program := "ytpgeheblmpjndaa", sum := "fb46e111154df56fb90d64853a5e0336bd3b3728f0879b8df93964b3e41126b2", func := "abutment/abutmentlaw15.StartStatuses", spec := "startStatuses", inPlace := ["internal/bytealg.IndexByteString", "internal/bytealg.IndexString", "internal/bytealg.CountString"], unfollowed := true, recurses := true, named := ["internal/bytealg.MaxLen"], apart := false, narrowed := true }
def StartStatusesUptoSaid : Prop := startStatusesUptoRow.holds Try.pinned (OpenSpec.upto startStatusesSpec)

/-- 'abutmentlaw15.StartBack', WHERE WHAT IT READS IS OF BULK AT MOST 1048576: true; the input reads as it did. -/
def startBackUptoRow : OpenClaim := { program := "ytpgeheblmpjndaa", sum := "fb46e111154df56fb90d64853a5e0336bd3b3728f0879b8df93964b3e41126b2", func := "abutment/abutmentlaw15.StartBack", spec := "startBack", inPlace := ["internal/bytealg.IndexByteString", "internal/bytealg.IndexString", "internal/bytealg.CountString"], unfollowed := true, recurses := true, named := ["internal/bytealg.MaxLen"], apart := false, narrowed := true }
def StartBackUptoSaid : Prop := startBackUptoRow.holds Try.pinned (OpenSpec.upto startBackSpec)

/-- 'abutmentlaw26.TrailerKeeps', WHERE WHAT IT READS IS OF BULK AT MOST 1048576: true; the input reads as it did. -/
def trailerKeepsUptoRow : OpenClaim := { program := "ytpgeheblmpjndaa", sum := "fb46e111154df56fb90d64853a5e0336bd3b3728f0879b8df93964b3e41126b2", func := "abutment/abutmentlaw26.TrailerKeeps", spec := "trailerKeeps", unfollowed := true, recurses := true, apart := false, narrowed := true }
def TrailerKeepsUptoSaid : Prop := trailerKeepsUptoRow.holds Try.pinned (OpenSpec.upto trailerKeepsSpec)

/-- 'abutmentlaw26.TrailerMerges', WHERE WHAT IT READS IS OF BULK AT MOST 1048576: true; the input reads as it did. -/
def trailerMergesUptoRow : OpenClaim := { program := "ytpgeheblmpjndaa", sum := "fb46e111154df56fb90d64853a5e0336bd3b3728f0879b8df93964b3e41126b2", func := "abutment/abutmentlaw26.TrailerMerges", spec := "trailerMerges", unfollowed := true, recurses := true, apart := false, narrowed := true }
def TrailerMergesUptoSaid : Prop := trailerMergesUptoRow.holds Try.pinned (OpenSpec.upto trailerMergesSpec)

/-- 'abutmentlaw50.CanonNames', WHERE WHAT IT READS IS OF BULK AT MOST 1048576: true; the input reads as it did. -/
def canonNamesUptoRow : OpenClaim := { program := "ytpgeheblmpjndaa", sum := "fb46e111154df56fb90d64853a5e0336bd3b3728f0879b8df93964b3e41126b2", func := "abutment/abutmentlaw50.CanonNames", spec := "canonNames", inPlace := ["internal/abi.NoEscape", "internal/bytealg.MakeNoZero"], unfollowed := true, recurses := true, apart := false, narrowed := true }
def CanonNamesUptoSaid : Prop := canonNamesUptoRow.holds Try.pinned (OpenSpec.upto canonNamesSpec)

/-- 'abutmentlaw36.PlanFits', WHERE WHAT IT READS IS OF BULK AT MOST 1048576: true; the input reads as it did. -/
def planFitsUptoRow : OpenClaim := { program := "ytpgeheblmpjndaa", sum := "fb46e111154df56fb90d64853a5e0336bd3b3728f0879b8df93964b3e41126b2", func := "abutment/abutmentlaw36.PlanFits", spec := "planFits", unfollowed := true, recurses := true, apart := false, narrowed := true }
def PlanFitsUptoSaid : Prop := planFitsUptoRow.holds Try.pinned (OpenSpec.upto planFitsSpec)

end Rows
end Go.Proofs.Ytpgeheblmpjndaa
