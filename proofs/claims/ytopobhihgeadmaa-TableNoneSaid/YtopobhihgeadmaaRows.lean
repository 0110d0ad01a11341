/-
  No cell of these rows narrows 'for every input' (looked for: loops, veiled, ifaces, maps, wideKeys, modest, calm, conditions, laid).
  DERIVED. THE GIVEN ROWS OF THIS SEAT. 11 by the template 'for every input the law returns true; each argument reads behind the call as it read before'; 0 by the template 'total and deterministic' (their statements: YtopobhihgeadmaaTotals.lean).
  GIVEN WITH THE SEED: the statements are not yours to turn. If you find one false, say at which input.
  Laid BY PROGRAM, IN A SANDBOX (cutbox-rows.mjs): the forced cells as the released guide's own fill.sh prints them over the translation 8c900c5e5ecbb16a… (all of the seat's roots in one cut). By AI agents, Wed Nov 11 2026. No macro, syntax, notation, axiom, sorry.
-/
import Derived.Test.YtopobhihgeadmaaChecked
import GoSem.Claim
import GoSem.ClaimJoined
import GoSem.ClaimMapViews
import Derived.JoinedTies
import Derived.KernelRfl
namespace Go.Proofs.Ytopobhihgeadmaa
/- THE CELL 'sum', in the pinned program and in every row, IS THE sha256 OF THE DUMP (.gsa) THAT YtopobhihgeadmaaProg.lean LOADS. Nothing in Lean hashes anything: it is a label: what it is worth is what the hold of that sum in a sandbox is worth. -/
noncomputable def Try.pinned : Pinned := { name := "ytopobhihgeadmaa", sum := "8c900c5e5ecbb16a5766ff8f2d2777f7de79c9a613b1f87185618e18be2fb35c", checked := Try.checked }
namespace Rows
def none {H : Type} : Left H := { results := [], args := [] }

/-- 'abutmentlaw40.TableNone': WHATEVER THE INPUT: true; the input reads as it did. -/
def tableNoneSpec : ChangeSpec := { name := "tableNone", fn := fun _ => fun
  | [d1, d2] => { results := [.lit (.bool true)], args := [d1, d2] }
  | _ => none }
def tableNoneRow : OpenClaim := { program := "ytopobhihgeadmaa", sum := "8c900c5e5ecbb16a5766ff8f2d2777f7de79c9a613b1f87185618e18be2fb35c", func := "abutment/abutmentlaw40.TableNone", spec := "tableNone", unfollowed := true, recurses := true, apart := false }
def TableNoneSaid : Prop := tableNoneRow.holds Try.pinned (OpenSpec.ofChange tableNoneSpec)

/-- ITS FALSE NEIGHBOUR: 'it returns false'. Refute it at one input. -/
def tableNoneWrong : ChangeSpec := { name := "tableNone", fn := fun _ => fun
  | [d1, d2] => { results := [.lit (.bool false)], args := [d1, d2] }
  | _ => none }
def TableNoneWrongFalsely : Prop := tableNoneRow.holds Try.pinned (OpenSpec.ofChange tableNoneWrong)

/-- 'abutmentlaw40.TablePool': WHATEVER THE INPUT: true; the input reads as it did. -/
def tablePoolSpec : ChangeSpec := { name := "tablePool", fn := fun _ => fun
  | [d] => { results := [.lit (.bool true)], args := [d] }
  | _ => none }
def tablePoolRow : OpenClaim := { program := "ytopobhihgeadmaa", sum := "8c900c5e5ecbb16a5766ff8f2d2777f7de79c9a613b1f87185618e18be2fb35c", func := "abutment/abutmentlaw40.TablePool", spec := "tablePool", apart := false }
def TablePoolSaid : Prop := tablePoolRow.holds Try.pinned (OpenSpec.ofChange tablePoolSpec)

/-- ITS FALSE NEIGHBOUR: 'it returns false'. Refute it at one input. -/
def tablePoolWrong : ChangeSpec := { name := "tablePool", fn := fun _ => fun
  | [d] => { results := [.lit (.bool false)], args := [d] }
  | _ => none }
def TablePoolWrongFalsely : Prop := tablePoolRow.holds Try.pinned (OpenSpec.ofChange tablePoolWrong)

/-- 'abutmentlaw40.TablePlays': WHATEVER THE INPUT: true; the input reads as it did. -/
def tablePlaysSpec : ChangeSpec := { name := "tablePlays", fn := fun _ => fun
  | [d1, d2] => { results := [.lit (.bool true)], args := [d1, d2] }
  | _ => none }
def tablePlaysRow : OpenClaim := { program := "ytopobhihgeadmaa", sum := "8c900c5e5ecbb16a5766ff8f2d2777f7de79c9a613b1f87185618e18be2fb35c", func := "abutment/abutmentlaw40.TablePlays", spec := "tablePlays", unfollowed := true, recurses := true, apart := false }
def TablePlaysSaid : Prop := tablePlaysRow.holds Try.pinned (OpenSpec.ofChange tablePlaysSpec)

/-- ITS FALSE NEIGHBOUR: 'it returns false'. Refute it at one input. -/
def tablePlaysWrong : ChangeSpec := { name := "tablePlays", fn := fun _ => fun
  | [d1, d2] => { results := [.lit (.bool false)], args := [d1, d2] }
  | _ => none }
def TablePlaysWrongFalsely : Prop := tablePlaysRow.holds Try.pinned (OpenSpec.ofChange tablePlaysWrong)

/-- 'abutmentlaw44.ActAsserts': WHATEVER THE INPUT: true; the input reads as it did. -/
def actAssertsSpec : ChangeSpec := { name := "actAsserts", fn := fun _ => fun
  | [d] => { results := [.lit (.bool true)], args := [d] }
  | _ => none }
def actAssertsRow : OpenClaim := { program := "ytopobhihgeadmaa", sum := "8c900c5e5ecbb16a5766ff8f2d2777f7de79c9a613b1f87185618e18be2fb35c", func := "abutment/abutmentlaw44.ActAsserts", spec := "actAsserts", unfollowed := true, recurses := true, apart := false }
def ActAssertsSaid : Prop := actAssertsRow.holds Try.pinned (OpenSpec.ofChange actAssertsSpec)

/-- ITS FALSE NEIGHBOUR: 'it returns false'. Refute it at one input. -/
def actAssertsWrong : ChangeSpec := { name := "actAsserts", fn := fun _ => fun
  | [d] => { results := [.lit (.bool false)], args := [d] }
  | _ => none }
def ActAssertsWrongFalsely : Prop := actAssertsRow.holds Try.pinned (OpenSpec.ofChange actAssertsWrong)

/-- 'abutmentlaw07.ListsJoin': WHATEVER THE INPUT: true; the input reads as it did. -/
def listsJoinSpec : ChangeSpec := { name := "listsJoin", fn := fun _ => fun
  | [d] => { results := [.lit (.bool true)], args := [d] }
  | _ => none }
def listsJoinRow : OpenClaim := { program := "ytopobhihgeadmaa", sum := "8c900c5e5ecbb16a5766ff8f2d2777f7de79c9a613b1f87185618e18be2fb35c", func := "abutment/abutmentlaw07.ListsJoin", spec := "listsJoin", inPlace := ["internal/abi.NoEscape", "internal/bytealg.MakeNoZero"], unfollowed := true, recurses := true, apart := false }
def ListsJoinSaid : Prop := listsJoinRow.holds Try.pinned (OpenSpec.ofChange listsJoinSpec)

/-- ITS FALSE NEIGHBOUR: 'it returns false'. Refute it at one input. -/
def listsJoinWrong : ChangeSpec := { name := "listsJoin", fn := fun _ => fun
  | [d] => { results := [.lit (.bool false)], args := [d] }
  | _ => none }
def ListsJoinWrongFalsely : Prop := listsJoinRow.holds Try.pinned (OpenSpec.ofChange listsJoinWrong)

/-- 'abutmentlaw07.ListsSplit': WHATEVER THE INPUT: true; the input reads as it did. -/
def listsSplitSpec : ChangeSpec := { name := "listsSplit", fn := fun _ => fun
  | [d1, d2] => { results := [.lit (.bool true)], args := [d1, d2] }
  | _ => none }
def listsSplitRow : OpenClaim := { program := "ytopobhihgeadmaa", sum := "8c900c5e5ecbb16a5766ff8f2d2777f7de79c9a613b1f87185618e18be2fb35c", func := "abutment/abutmentlaw07.ListsSplit", spec := "listsSplit", inPlace := ["internal/abi.NoEscape", "internal/bytealg.MakeNoZero"], unfollowed := true, recurses := true, apart := false }
def ListsSplitSaid : Prop := listsSplitRow.holds Try.pinned (OpenSpec.ofChange listsSplitSpec)

/-- ITS FALSE NEIGHBOUR: 'it returns false'. Refute it at one input. -/
def listsSplitWrong : ChangeSpec := { name := "listsSplit", fn := fun _ => fun
  | [d1, d2] => { results := [.lit (.bool false)], args := [d1, d2] }
  | _ => none }
def ListsSplitWrongFalsely : Prop := listsSplitRow.holds Try.pinned (OpenSpec.ofChange listsSplitWrong)

/-- 'abutmentlaw07.ListsBack': WHATEVER THE INPUT: true; the input reads as it did. -/
def listsBackSpec : ChangeSpec := { name := "listsBack", fn := fun _ => fun
  | [d] => { results := [.lit (.bool true)], args := [d] }
  | _ => none }
def listsBackRow : OpenClaim := { program := "ytopobhihgeadmaa", sum := "8c900c5e5ecbb16a5766ff8f2d2777f7de79c9a613b1f87185618e18be2fb35c", func := "abutment/abutmentlaw07.ListsBack", spec := "listsBack", inPlace := ["internal/abi.NoEscape", "internal/bytealg.MakeNoZero"], unfollowed := true, recurses := true, apart := false }
def ListsBackSaid : Prop := listsBackRow.holds Try.pinned (OpenSpec.ofChange listsBackSpec)

/-- ITS FALSE NEIGHBOUR: 'it returns false'. Refute it at one input. -/
def listsBackWrong : ChangeSpec := { name := "listsBack", fn := fun _ => fun
  | [d] => { results := [.lit (.bool false)], args := [d] }
  | _ => none }
def ListsBackWrongFalsely : Prop := listsBackRow.holds Try.pinned (OpenSpec.ofChange listsBackWrong)

/-- 'abutmentlaw06.HttpdatePrints': WHATEVER THE INPUT: true; the input reads as it did. -/
def httpdatePrintsSpec : ChangeSpec := { name := "httpdatePrints", fn := fun _ => fun
  | [d] => { results := [.lit (.bool true)], args := [d] }
  | _ => none }
def httpdatePrintsRow : OpenClaim := { program := "ytopobhihgeadmaa", sum := "8c900c5e5ecbb16a5766ff8f2d2777f7de79c9a613b1f87185618e18be2fb35c", func := "abutment/abutmentlaw06.HttpdatePrints", spec := "httpdatePrints", inPlace := ["internal/abi.NoEscape"], unfollowed := true, recurses := true, apart := false }
def HttpdatePrintsSaid : Prop := httpdatePrintsRow.holds Try.pinned (OpenSpec.ofChange httpdatePrintsSpec)

/-- ITS FALSE NEIGHBOUR: 'it returns false'. Refute it at one input. -/
def httpdatePrintsWrong : ChangeSpec := { name := "httpdatePrints", fn := fun _ => fun
  | [d] => { results := [.lit (.bool false)], args := [d] }
  | _ => none }
def HttpdatePrintsWrongFalsely : Prop := httpdatePrintsRow.holds Try.pinned (OpenSpec.ofChange httpdatePrintsWrong)

/-- 'abutmentlaw06.HttpdateParses': WHATEVER THE INPUT: true; the input reads as it did. -/
def httpdateParsesSpec : ChangeSpec := { name := "httpdateParses", fn := fun _ => fun
  | [d1, d2] => { results := [.lit (.bool true)], args := [d1, d2] }
  | _ => none }
def httpdateParsesRow : OpenClaim := { program := "ytopobhihgeadmaa", sum := "8c900c5e5ecbb16a5766ff8f2d2777f7de79c9a613b1f87185618e18be2fb35c", func := "abutment/abutmentlaw06.HttpdateParses", spec := "httpdateParses", inPlace := ["internal/abi.NoEscape"], unfollowed := true, recurses := true, apart := false }
def HttpdateParsesSaid : Prop := httpdateParsesRow.holds Try.pinned (OpenSpec.ofChange httpdateParsesSpec)

/-- ITS FALSE NEIGHBOUR: 'it returns false'. Refute it at one input. -/
def httpdateParsesWrong : ChangeSpec := { name := "httpdateParses", fn := fun _ => fun
  | [d1, d2] => { results := [.lit (.bool false)], args := [d1, d2] }
  | _ => none }
def HttpdateParsesWrongFalsely : Prop := httpdateParsesRow.holds Try.pinned (OpenSpec.ofChange httpdateParsesWrong)

/-- 'abutmentlaw06.HttpdateBack': WHATEVER THE INPUT: true; the input reads as it did. -/
def httpdateBackSpec : ChangeSpec := { name := "httpdateBack", fn := fun _ => fun
  | [d1, d2] => { results := [.lit (.bool true)], args := [d1, d2] }
  | _ => none }
def httpdateBackRow : OpenClaim := { program := "ytopobhihgeadmaa", sum := "8c900c5e5ecbb16a5766ff8f2d2777f7de79c9a613b1f87185618e18be2fb35c", func := "abutment/abutmentlaw06.HttpdateBack", spec := "httpdateBack", inPlace := ["internal/abi.NoEscape"], unfollowed := true, recurses := true, apart := false }
def HttpdateBackSaid : Prop := httpdateBackRow.holds Try.pinned (OpenSpec.ofChange httpdateBackSpec)

/-- ITS FALSE NEIGHBOUR: 'it returns false'. Refute it at one input. -/
def httpdateBackWrong : ChangeSpec := { name := "httpdateBack", fn := fun _ => fun
  | [d1, d2] => { results := [.lit (.bool false)], args := [d1, d2] }
  | _ => none }
def HttpdateBackWrongFalsely : Prop := httpdateBackRow.holds Try.pinned (OpenSpec.ofChange httpdateBackWrong)

/-- 'abutmentlaw33.RefusalTells': WHATEVER THE INPUT: true; the input reads as it did. -/
def refusalTellsSpec : ChangeSpec := { name := "refusalTells", fn := fun _ => fun
  | [d1, d2, d3] => { results := [.lit (.bool true)], args := [d1, d2, d3] }
  | _ => none }
def refusalTellsRow : OpenClaim := { program := "ytopobhihgeadmaa", sum := "8c900c5e5ecbb16a5766ff8f2d2777f7de79c9a613b1f87185618e18be2fb35c", func := "abutment/abutmentlaw33.RefusalTells", spec := "refusalTells", inPlace := ["internal/abi.NoEscape"], unfollowed := true, recurses := true, apart := false }
def RefusalTellsSaid : Prop := refusalTellsRow.holds Try.pinned (OpenSpec.ofChange refusalTellsSpec)

/-- ITS FALSE NEIGHBOUR: 'it returns false'. Refute it at one input. -/
def refusalTellsWrong : ChangeSpec := { name := "refusalTells", fn := fun _ => fun
  | [d1, d2, d3] => { results := [.lit (.bool false)], args := [d1, d2, d3] }
  | _ => none }
def RefusalTellsWrongFalsely : Prop := refusalTellsRow.holds Try.pinned (OpenSpec.ofChange refusalTellsWrong)

/- THE SECOND FORM. 'bulk': how many values and letters a reading holds, each counted each time it is reached (what is shared counts as often as it is met; a slice's spare places count too). A statement '..UptoSaid' is the law's where the arguments, and the package variables that the reading takes, are together of bulk at most 1048576: NARROWER than '..Said'. Prove '..Said' where nothing that the law and all that it calls make is longer than what came in: it says more and counts as full. Else prove '..UptoSaid'. A law counts once. -/
mutual
def uptoBulk {H : Type} : DataW H → Nat
  | .lit (.string bytes) => bytes.length + 1
  | .lit _ => 1
  | .nil => 1
  | .ptr d => uptoBulk d + 1
  | .slice elems spare => uptoBulkAll elems + uptoBulkAll spare + 1
  | .agg parts => uptoBulkAll parts + 1
  | .iface _ d => uptoBulk d + 1
  | .map entries => uptoBulkEntries entries + 1
  | .held _ => 1
def uptoBulkAll {H : Type} : List (DataW H) → Nat
  | [] => 0
  | d :: r => uptoBulk d + uptoBulkAll r
def uptoBulkEntries {H : Type} : List (Lit × DataW H) → Nat
  | [] => 0
  | x :: r => uptoBulkEntry x + uptoBulkEntries r
def uptoBulkEntry {H : Type} : Lit × DataW H → Nat
  | (.string bytes, d) => bytes.length + uptoBulk d + 1
  | (_, d) => uptoBulk d + 1
 end
def uptoSmall : (H : Type) → List (DataW H) → Bool := fun _ ds => decide (uptoBulkAll ds ≤ 1048576)
def OpenSpec.upto (s : _root_.Go.ChangeSpec) : _root_.Go.OpenSpec := { _root_.Go.OpenSpec.ofChange s with cond := some uptoSmall }

/-- 'abutmentlaw40.TableNone', WHERE WHAT IT READS IS OF BULK AT MOST 1048576: true; the input reads as it did. -/
def tableNoneUptoRow : OpenClaim := { program := "ytopobhihgeadmaa", sum := "8c900c5e5ecbb16a5766ff8f2d2777f7de79c9a613b1f87185618e18be2fb35c", func := "abutment/abutmentlaw40.TableNone", spec := "tableNone", unfollowed := true, recurses := true, apart := false, narrowed := true }
def TableNoneUptoSaid : Prop := tableNoneUptoRow.holds Try.pinned (OpenSpec.upto tableNoneSpec)

/-- 'abutmentlaw40.TablePool', WHERE WHAT IT READS IS OF BULK AT MOST 1048576: true; the input reads as it did. -/
def tablePoolUptoRow : OpenClaim := { program := "ytopobhihgeadmaa", sum := "8c900c5e5ecbb16a5766ff8f2d2777f7de79c9a613b1f87185618e18be2fb35c", func := "abutment/abutmentlaw40.TablePool", spec := "tablePool", apart := false, narrowed := true }
def TablePoolUptoSaid : Prop := tablePoolUptoRow.holds Try.pinned (OpenSpec.upto tablePoolSpec)

/-- 'abutmentlaw40.TablePlays', WHERE WHAT IT READS IS OF BULK AT MOST 1048576: true; the input reads as it did. -/
def tablePlaysUptoRow : OpenClaim := { program := "ytopobhihgeadmaa", sum := "8c900c5e5ecbb16a5766ff8f2d2777f7de79c9a613b1f87185618e18be2fb35c", func := "abutment/abutmentlaw40.TablePlays", spec := "tablePlays", unfollowed := true, recurses := true, apart := false, narrowed := true }
def TablePlaysUptoSaid : Prop := tablePlaysUptoRow.holds Try.pinned (OpenSpec.upto tablePlaysSpec)

/-- 'abutmentlaw44.ActAsserts', WHERE WHAT IT READS IS OF BULK AT MOST 1048576: true; the input reads as it did. -/
def actAssertsUptoRow : OpenClaim := { program := "ytopobhihgeadmaa", sum := "8c900c5e5ecbb16a5766ff8f2d2777f7de79c9a613b1f87185618e18be2fb35c", func := "abutment/abutmentlaw44.ActAsserts", spec := "actAsserts", unfollowed := true, recurses := true, apart := false, narrowed := true }
def ActAssertsUptoSaid : Prop := actAssertsUptoRow.holds Try.pinned (OpenSpec.upto actAssertsSpec)

/-- 'abutmentlaw07.ListsJoin', WHERE WHAT IT READS IS OF BULK AT MOST 1048576: true; the input reads as it did. -/
def listsJoinUptoRow : OpenClaim := { program := "ytopobhihgeadmaa", sum := "8c900c5e5ecbb16a5766ff8f2d2777f7de79c9a613b1f87185618e18be2fb35c", func := "abutment/abutmentlaw07.ListsJoin", spec := "listsJoin", inPlace := ["internal/abi.NoEscape", "internal/bytealg.MakeNoZero"], unfollowed := true, recurses := true, apart := false, narrowed := true }
def ListsJoinUptoSaid : Prop := listsJoinUptoRow.holds Try.pinned (OpenSpec.upto listsJoinSpec)

/-- 'abutmentlaw07.ListsSplit', WHERE WHAT IT READS IS OF BULK AT MOST 1048576: true; the input reads as it did. -/
def listsSplitUptoRow : OpenClaim := { program := "ytopobhihgeadmaa", sum := "8c900c5e5ecbb16a5766ff8f2d2777f7de79c9a613b1f87185618e18be2fb35c", func := "abutment/abutmentlaw07.ListsSplit", spec := "listsSplit", inPlace := ["internal/abi.NoEscape", "internal/bytealg.MakeNoZero"], unfollowed := true, recurses := true, apart := false, narrowed := true }
def ListsSplitUptoSaid : Prop := listsSplitUptoRow.holds Try.pinned (OpenSpec.upto listsSplitSpec)

/-- 'abutmentlaw07.ListsBack', WHERE WHAT IT READS IS OF BULK AT MOST 1048576: true; the input reads as it did. -/
def listsBackUptoRow : OpenClaim := { program := "ytopobhihgeadmaa", sum := "8c900c5e5ecbb16a5766ff8f2d2777f7de79c9a613b1f87185618e18be2fb35c", func := "abutment/abutmentlaw07.ListsBack", spec := "listsBack", inPlace := ["internal/abi.NoEscape", "internal/bytealg.MakeNoZero"], unfollowed := true, recurses := true, apart := false, narrowed := true }
def ListsBackUptoSaid : Prop := listsBackUptoRow.holds Try.pinned (OpenSpec.upto listsBackSpec)

/-- 'abutmentlaw06.HttpdatePrints', WHERE WHAT IT READS IS OF BULK AT MOST 1048576: true; the input reads as it did. -/
def httpdatePrintsUptoRow : OpenClaim := { program := "ytopobhihgeadmaa", sum := "8c900c5e5ecbb16a5766ff8f2d2777f7de79c9a613b1f87185618e18be2fb35c", func := "abutment/abutmentlaw06.HttpdatePrints", spec := "httpdatePrints", inPlace := ["internal/abi.NoEscape"], unfollowed := true, recurses := true, apart := false, narrowed := true }
def HttpdatePrintsUptoSaid : Prop := httpdatePrintsUptoRow.holds Try.pinned (OpenSpec.upto httpdatePrintsSpec)

/-- 'abutmentlaw06.HttpdateParses', WHERE WHAT IT READS IS OF BULK AT MOST 1048576: true; the input reads as it did. -/
def httpdateParsesUptoRow : OpenClaim := { program := "ytopobhihgeadmaa", sum := "8c900c5e5ecbb16a5766ff8f2d2777f7de79c9a613b1f87185618e18be2fb35c", func := "abutment/abutmentlaw06.HttpdateParses", spec := "httpdateParses", inPlace := ["internal/abi.NoEscape"], unfollowed := true, recurses := true, apart := false, narrowed := true }
def HttpdateParsesUptoSaid : Prop := httpdateParsesUptoRow.holds Try.pinned (OpenSpec.upto httpdateParsesSpec)

/-- 'abutmentlaw06.HttpdateBack', WHERE WHAT IT READS IS OF BULK AT MOST 1048576: true; the input reads as it did. -/
def httpdateBackUptoRow : OpenClaim := { program := "ytopobhihgeadmaa", sum := "8c900c5e5ecbb16a5766ff8f2d2777f7de79c9a613b1f87185618e18be2fb35c", func := "abutment/abutmentlaw06.HttpdateBack", spec := "httpdateBack", inPlace := ["internal/abi.NoEscape"], unfollowed := true, recurses := true, apart := false, narrowed := true }
def HttpdateBackUptoSaid : Prop := httpdateBackUptoRow.holds Try.pinned (OpenSpec.upto httpdateBackSpec)

/-- 'abutmentlaw33.RefusalTells', WHERE WHAT IT READS IS OF BULK AT MOST 1048576: true; the input reads as it did. -/
def refusalTellsUptoRow : OpenClaim := { program := "ytopobhihgeadmaa", sum := "8c900c5e5ecbb16a5766ff8f2d2777f7de79c9a613b1f87185618e18be2fb35c", func := "abutment/abutmentlaw33.RefusalTells", spec := "refusalTells", inPlace := ["internal/abi.NoEscape"], unfollowed := true, recurses := true, apart := false, narrowed := true }
def RefusalTellsUptoSaid : Prop := refusalTellsUptoRow.holds Try.pinned (OpenSpec.upto refusalTellsSpec)

end Rows
end Go.Proofs.Ytopobhihgeadmaa
