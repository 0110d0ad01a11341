/-
  No cell of these rows narrows 'for every input' (looked for: loops, veiled, ifaces, maps, wideKeys, modest, calm, conditions, laid).
  DERIVED. THE GIVEN ROWS OF THIS SEAT. 12 by the template 'for every input the law returns true; each argument reads behind the call as it read before'; 0 by the template 'total and deterministic' (their statements: YtgogoncpnfojkaaTotals.lean).
  GIVEN WITH THE SEED: the statements are not yours to turn. If you find one false, say at which input.
  Laid BY PROGRAM, IN A SANDBOX (cutbox-rows.mjs): the forced cells as the released guide's own fill.sh prints them over the translation da31186e82557a1e… (all of the seat's roots in one cut). By AI agents, Wed Nov 11 2026. No macro, syntax, notation, axiom, sorry.
-/
import Derived.Test.YtgogoncpnfojkaaChecked
import GoSem.Claim
import GoSem.ClaimJoined
import GoSem.ClaimMapViews
import Derived.JoinedTies
import Derived.KernelRfl
namespace Go.Proofs.Ytgogoncpnfojkaa
/- THE CELL 'sum', in the pinned program and in every row, IS THE sha256 OF THE DUMP (.gsa) THAT YtgogoncpnfojkaaProg.lean LOADS. Nothing in Lean hashes anything: it is a label: what it is worth is what the hold of that sum in a sandbox is worth. -/
noncomputable def Try.pinned : Pinned := { name := "ytgogoncpnfojkaa", sum := "da31186e82557a1e8ac47b332b6887a4beb2630e1f16adcc44c6c5ac18076030", checked := Try.checked }
namespace Rows
def none {H : Type} : Left H := { results := [], args := [] }

/-- 'abutmentlaw40.TablePool': WHATEVER THE INPUT: true; the input reads as it did. -/
def tablePoolSpec : ChangeSpec := { name := "tablePool", fn := fun _ => fun
  | [d] => { results := [.lit (.bool true)], args := [d] }
  | _ => none }
def tablePoolRow : OpenClaim := { program := "ytgogoncpnfojkaa", sum := "da31186e82557a1e8ac47b332b6887a4beb2630e1f16adcc44c6c5ac18076030", func := "abutment/abutmentlaw40.TablePool", spec := "tablePool", apart := false }
def TablePoolSaid : Prop := tablePoolRow.holds Try.pinned (OpenSpec.ofChange tablePoolSpec)

/-- ITS FALSE NEIGHBOUR: 'it returns false'. Refute it at one input. -/
def tablePoolWrong : ChangeSpec := { name := "tablePool", fn := fun _ => fun
  | [d] => { results := [.lit (.bool false)], args := [d] }
  | _ => none }
def TablePoolWrongFalsely : Prop := tablePoolRow.holds Try.pinned (OpenSpec.ofChange tablePoolWrong)

/-- 'abutmentlaw40.TablePlays': WHATEVER THE INPUT: true; the input reads as it did. -/
def tablePlaysSpec : ChangeSpec := { name := "tablePlays", fn := fun _ => fun
  | [d1, d2] => { results := [.lit (.bool true)], args := [d1, d2] }
  | _ => none }
def tablePlaysRow : OpenClaim := { program := "ytgogoncpnfojkaa", sum := "da31186e82557a1e8ac47b332b6887a4beb2630e1f16adcc44c6c5ac18076030", func := "abutment/abutmentlaw40.TablePlays", spec := "tablePlays", unfollowed := true, recurses := true, apart := false }
def TablePlaysSaid : Prop := tablePlaysRow.holds Try.pinned (OpenSpec.ofChange tablePlaysSpec)

/-- ITS FALSE NEIGHBOUR: 'it returns false'. Refute it at one input. -/
def tablePlaysWrong : ChangeSpec := { name := "tablePlays", fn := fun _ => fun
  | [d1, d2] => { results := [.lit (.bool false)], args := [d1, d2] }
  | _ => none }
def TablePlaysWrongFalsely : Prop := tablePlaysRow.holds Try.pinned (OpenSpec.ofChange tablePlaysWrong)

/-- 'abutmentlaw06.HttpdateParses': WHATEVER THE INPUT: true; the input reads as it did. -/
def httpdateParsesSpec : ChangeSpec := { name := "httpdateParses", fn := fun _ => fun
  | [d1, d2] => { results := [.lit (.bool true)], args := [d1, d2] }
  | _ => none }
def httpdateParsesRow : OpenClaim := { program := "ytgogoncpnfojkaa", sum := "da31186e82557a1e8ac47b332b6887a4beb2630e1f16adcc44c6c5ac18076030", func := "abutment/abutmentlaw06.HttpdateParses", spec := "httpdateParses", inPlace := ["internal/abi.NoEscape"], unfollowed := true, recurses := true, apart := false }
def HttpdateParsesSaid : Prop := httpdateParsesRow.holds Try.pinned (OpenSpec.ofChange httpdateParsesSpec)

/-- ITS FALSE NEIGHBOUR: 'it returns false'. Refute it at one input. -/
def httpdateParsesWrong : ChangeSpec := { name := "httpdateParses", fn := fun _ => fun
  | [d1, d2] => { results := [.lit (.bool false)], args := [d1, d2] }
  | _ => none }
def HttpdateParsesWrongFalsely : Prop := httpdateParsesRow.holds Try.pinned (OpenSpec.ofChange httpdateParsesWrong)

/-- 'abutmentlaw06.HttpdatePrints': WHATEVER THE INPUT: true; the input reads as it did. -/
def httpdatePrintsSpec : ChangeSpec := { name := "httpdatePrints", fn := fun _ => fun
  | [d] => { results := [.lit (.bool true)], args := [d] }
  | _ => none }
def httpdatePrintsRow : OpenClaim := { program := "ytgogoncpnfojkaa", sum := "da31186e82557a1e8ac47b332b6887a4beb2630e1f16adcc44c6c5ac18076030", func := "abutment/abutmentlaw06.HttpdatePrints", spec := "httpdatePrints", inPlace := ["internal/abi.NoEscape"], unfollowed := true, recurses := true, apart := false }
def HttpdatePrintsSaid : Prop := httpdatePrintsRow.holds Try.pinned (OpenSpec.ofChange httpdatePrintsSpec)

/-- ITS FALSE NEIGHBOUR: 'it returns false'. Refute it at one input. -/
def httpdatePrintsWrong : ChangeSpec := { name := "httpdatePrints", fn := fun _ => fun
  | [d] => { results := [.lit (.bool false)], args := [d] }
  | _ => none }
def HttpdatePrintsWrongFalsely : Prop := httpdatePrintsRow.holds Try.pinned (OpenSpec.ofChange httpdatePrintsWrong)

/-- 'abutmentlaw06.HttpdateBack': WHATEVER THE INPUT: true; the input reads as it did. -/
def httpdateBackSpec : ChangeSpec := { name := "httpdateBack", fn := fun _ => fun
  | [d1, d2] => { results := [.lit (.bool true)], args := [d1, d2] }
  | _ => none }
def httpdateBackRow : OpenClaim := { program := "ytgogoncpnfojkaa", sum := "da31186e82557a1e8ac47b332b6887a4beb2630e1f16adcc44c6c5ac18076030", func := "abutment/abutmentlaw06.HttpdateBack", spec := "httpdateBack", inPlace := ["internal/abi.NoEscape"], unfollowed := true, recurses := true, apart := false }
def HttpdateBackSaid : Prop := httpdateBackRow.holds Try.pinned (OpenSpec.ofChange httpdateBackSpec)

/-- ITS FALSE NEIGHBOUR: 'it returns false'. Refute it at one input. -/
def httpdateBackWrong : ChangeSpec := { name := "httpdateBack", fn := fun _ => fun
  | [d1, d2] => { results := [.lit (.bool false)], args := [d1, d2] }
  | _ => none }
def HttpdateBackWrongFalsely : Prop := httpdateBackRow.holds Try.pinned (OpenSpec.ofChange httpdateBackWrong)

/-- 'abutmentlaw41.ClockPlays': WHATEVER THE INPUT: true; the input reads as it did. -/
def clockPlaysSpec : ChangeSpec := { name := "clockPlays", fn := fun _ => fun
  | [d1, d2] => { results := [.lit (.bool true)], args := [d1, d2] }
  | _ => none }
def clockPlaysRow : OpenClaim := { program := "ytgogoncpnfojkaa", sum := "da31186e82557a1e8ac47b332b6887a4beb2630e1f16adcc44c6c5ac18076030", func := "abutment/abutmentlaw41.ClockPlays", spec := "clockPlays", unfollowed := true, recurses := true, apart := false }
def ClockPlaysSaid : Prop := clockPlaysRow.holds Try.pinned (OpenSpec.ofChange clockPlaysSpec)

/-- ITS FALSE NEIGHBOUR: 'it returns false'. Refute it at one input. -/
def clockPlaysWrong : ChangeSpec := { name := "clockPlays", fn := fun _ => fun
  | [d1, d2] => { results := [.lit (.bool false)], args := [d1, d2] }
  | _ => none }
def ClockPlaysWrongFalsely : Prop := clockPlaysRow.holds Try.pinned (OpenSpec.ofChange clockPlaysWrong)

/-- 'abutmentlaw41.ClockParts': WHATEVER THE INPUT: true; the input reads as it did. -/
def clockPartsSpec : ChangeSpec := { name := "clockParts", fn := fun _ => fun
  | [d1, d2] => { results := [.lit (.bool true)], args := [d1, d2] }
  | _ => none }
def clockPartsRow : OpenClaim := { program := "ytgogoncpnfojkaa", sum := "da31186e82557a1e8ac47b332b6887a4beb2630e1f16adcc44c6c5ac18076030", func := "abutment/abutmentlaw41.ClockParts", spec := "clockParts", unfollowed := true, recurses := true, apart := false }
def ClockPartsSaid : Prop := clockPartsRow.holds Try.pinned (OpenSpec.ofChange clockPartsSpec)

/-- ITS FALSE NEIGHBOUR: 'it returns false'. Refute it at one input. -/
def clockPartsWrong : ChangeSpec := { name := "clockParts", fn := fun _ => fun
  | [d1, d2] => { results := [.lit (.bool false)], args := [d1, d2] }
  | _ => none }
def ClockPartsWrongFalsely : Prop := clockPartsRow.holds Try.pinned (OpenSpec.ofChange clockPartsWrong)

/-- 'abutmentlaw44.ActAsserts': WHATEVER THE INPUT: true; the input reads as it did. -/
def actAssertsSpec : ChangeSpec := { name := "actAsserts", fn := fun _ => fun
  | [d] => { results := [.lit (.bool true)], args := [d] }
  | _ => none }
def actAssertsRow : OpenClaim := { program := "ytgogoncpnfojkaa", sum := "da31186e82557a1e8ac47b332b6887a4beb2630e1f16adcc44c6c5ac18076030", func := "abutment/abutmentlaw44.ActAsserts", spec := "actAsserts", unfollowed := true, recurses := true, apart := false }
def ActAssertsSaid : Prop := actAssertsRow.holds Try.pinned (OpenSpec.ofChange actAssertsSpec)

/-- ITS FALSE NEIGHBOUR: 'it returns false'. Refute it at one input. -/
def actAssertsWrong : ChangeSpec := { name := "actAsserts", fn := fun _ => fun
  | [d] => { results := [.lit (.bool false)], args := [d] }
  | _ => none }
def ActAssertsWrongFalsely : Prop := actAssertsRow.holds Try.pinned (OpenSpec.ofChange actAssertsWrong)

/-- 'abutmentlaw51.DiffLines': WHATEVER THE INPUT: true; the input reads as it did. -/
def diffLinesSpec : ChangeSpec := { name := "diffLines", fn := fun _ => fun
  | [d1, d2] => { results := [.lit (.bool true)], args := [d1, d2] }
  | _ => none }
def diffLinesRow : OpenClaim := { program := "ytgogoncpnfojkaa", sum := "da31186e82557a1e8ac47b332b6887a4beb2630e1f16adcc44c6c5ac18076030", func := "abutment/abutmentlaw51.DiffLines", spec := "diffLines", unfollowed := true, recurses := true, apart := false }
def DiffLinesSaid : Prop := diffLinesRow.holds Try.pinned (OpenSpec.ofChange diffLinesSpec)

/-- ITS FALSE NEIGHBOUR: 'it returns false'. Refute it at one input. -/
def diffLinesWrong : ChangeSpec := { name := "diffLines", fn := fun _ => fun
  | [d1, d2] => { results := [.lit (.bool false)], args := [d1, d2] }
  | _ => none }
def DiffLinesWrongFalsely : Prop := diffLinesRow.holds Try.pinned (OpenSpec.ofChange diffLinesWrong)

/-- 'abutmentlaw51.DiffHeads': WHATEVER THE INPUT: true; the input reads as it did. -/
def diffHeadsSpec : ChangeSpec := { name := "diffHeads", fn := fun _ => fun
  | [d1, d2] => { results := [.lit (.bool true)], args := [d1, d2] }
  | _ => none }
def diffHeadsRow : OpenClaim := { program := "ytgogoncpnfojkaa", sum := "da31186e82557a1e8ac47b332b6887a4beb2630e1f16adcc44c6c5ac18076030", func := "abutment/abutmentlaw51.DiffHeads", spec := "diffHeads", inPlace := ["internal/abi.NoEscape", "internal/bytealg.MakeNoZero"], unfollowed := true, recurses := true, apart := false }
def DiffHeadsSaid : Prop := diffHeadsRow.holds Try.pinned (OpenSpec.ofChange diffHeadsSpec)

/-- ITS FALSE NEIGHBOUR: 'it returns false'. Refute it at one input. -/
def diffHeadsWrong : ChangeSpec := { name := "diffHeads", fn := fun _ => fun
  | [d1, d2] => { results := [.lit (.bool false)], args := [d1, d2] }
  | _ => none }
def DiffHeadsWrongFalsely : Prop := diffHeadsRow.holds Try.pinned (OpenSpec.ofChange diffHeadsWrong)

/-- 'abutmentlaw51.DiffApplies': WHATEVER THE INPUT: true; the input reads as it did. -/
def diffAppliesSpec : ChangeSpec := { name := "diffApplies", fn := fun _ => fun
  | [d1, d2] => { results := [.lit (.bool true)], args := [d1, d2] }
  | _ => none }
def diffAppliesRow : OpenClaim := { program := "ytgogoncpnfojkaa", sum := "da31186e82557a1e8ac47b332b6887a4beb2630e1f16adcc44c6c5ac18076030", func := "abutment/abutmentlaw51.DiffApplies", spec := "diffApplies", unfollowed := true, recurses := true, apart := false }
def DiffAppliesSaid : Prop := diffAppliesRow.holds Try.pinned (OpenSpec.ofChange diffAppliesSpec)

/-- ITS FALSE NEIGHBOUR: 'it returns false'. Refute it at one input. -/
def diffAppliesWrong : ChangeSpec := { name := "diffApplies", fn := fun _ => fun
  | [d1, d2] => { results := [.lit (.bool false)], args := [d1, d2] }
  | _ => none }
def DiffAppliesWrongFalsely : Prop := diffAppliesRow.holds Try.pinned (OpenSpec.ofChange diffAppliesWrong)

/-- 'abutmentlaw51.DiffBack': WHATEVER THE INPUT: true; the input reads as it did. -/
def diffBackSpec : ChangeSpec := { name := "diffBack", fn := fun _ => fun
  | [d1, d2] => { results := [.lit (.bool true)], args := [d1, d2] }
  | _ => none }
def diffBackRow : OpenClaim := { program := "ytgogoncpnfojkaa", sum := "da31186e82557a1e8ac47b332b6887a4beb2630e1f16adcc44c6c5ac18076030", func := "abutment/abutmentlaw51.DiffBack", spec := "diffBack", unfollowed := true, recurses := true, apart := false }
def DiffBackSaid : Prop := diffBackRow.holds Try.pinned (OpenSpec.ofChange diffBackSpec)

/-- ITS FALSE NEIGHBOUR: 'it returns false'. Refute it at one input. -/
def diffBackWrong : ChangeSpec := { name := "diffBack", fn := fun _ => fun
  | [d1, d2] => { results := [.lit (.bool false)], args := [d1, d2] }
  | _ => none }
def DiffBackWrongFalsely : Prop := diffBackRow.holds Try.pinned (OpenSpec.ofChange diffBackWrong)

/- THE SECOND FORM. 'bulk': how many values and letters a reading holds, each counted each time it is reached (what is shared counts as often as it is met; a slice's spare places count too). A statement '..UptoSaid' is the law's where the arguments, and the package variables that the reading takes, are together of bulk at most 1048576: NARROWER than '..Said'. Prove '..Said' where nothing that the law and all that it calls make is longer than what came in: it says more and counts as full. Else prove '..UptoSaid'. A law counts once. -/
mutual
def uptoBulk {H : Type} : DataW H → Nat
  | .lit (.string bytes) => bytes.length + 1
  | .lit _ => 1
  | .nil => 1
  | .ptr d => uptoBulk d + 1
  | .slice elems spare => uptoBulkAll elems + uptoBulkAll spare + 1
  | .agg parts => uptoBulkAll parts + 1
  | .iface _ d => uptoBulk d + 1
  | .map entries => uptoBulkEntries entries + 1
  | .held _ => 1
def uptoBulkAll {H : Type} : List (DataW H) → Nat
  | [] => 0
  | d :: r => uptoBulk d + uptoBulkAll r
def uptoBulkEntries {H : Type} : List (Lit × DataW H) → Nat
  | [] => 0
  | x :: r => uptoBulkEntry x + uptoBulkEntries r
def uptoBulkEntry {H : Type} : Lit × DataW H → Nat
  | (.string bytes, d) => bytes.length + uptoBulk d + 1
  | (_, d) => uptoBulk d + 1
 end
def uptoSmall : (H : Type) → List (DataW H) → Bool := fun _ ds => decide (uptoBulkAll ds ≤ 1048576)
def OpenSpec.upto (s : _root_.Go.ChangeSpec) : _root_.Go.OpenSpec := { _root_.Go.OpenSpec.ofChange s with cond := some uptoSmall }

/-- 'abutmentlaw40.TablePool', WHERE WHAT IT READS IS OF BULK AT MOST 1048576: true; the input reads as it did. -/
def tablePoolUptoRow : OpenClaim := { program := "ytgogoncpnfojkaa", sum := "da31186e82557a1e8ac47b332b6887a4beb2630e1f16adcc44c6c5ac18076030", func := "abutment/abutmentlaw40.TablePool", spec := "tablePool", apart := false, narrowed := true }
def TablePoolUptoSaid : Prop := tablePoolUptoRow.holds Try.pinned (OpenSpec.upto tablePoolSpec)

/-- 'abutmentlaw40.TablePlays', WHERE WHAT IT READS IS OF BULK AT MOST 1048576: true; the input reads as it did. -/
def tablePlaysUptoRow : OpenClaim := { program := "ytgogoncpnfojkaa", sum := "da31186e82557a1e8ac47b332b6887a4beb2630e1f16adcc44c6c5ac18076030", func := "abutment/abutmentlaw40.TablePlays", spec := "tablePlays", unfollowed := true, recurses := true, apart := false, narrowed := true }
def TablePlaysUptoSaid : Prop := tablePlaysUptoRow.holds Try.pinned (OpenSpec.upto tablePlaysSpec)

/-- 'abutmentlaw06.HttpdateParses', WHERE WHAT IT READS IS OF BULK AT MOST 1048576: true; the input reads as it did. -/
def httpdateParsesUptoRow : OpenClaim := { program := "ytgogoncpnfojkaa", sum := "da31186e82557a1e8ac47b332b6887a4beb2630e1f16adcc44c6c5ac18076030", func := "abutment/abutmentlaw06.HttpdateParses", spec := "httpdateParses", inPlace := ["internal/abi.NoEscape"], unfollowed := true, recurses := true, apart := false, narrowed := true }
def HttpdateParsesUptoSaid : Prop := httpdateParsesUptoRow.holds Try.pinned (OpenSpec.upto httpdateParsesSpec)

/-- 'abutmentlaw06.HttpdatePrints', WHERE WHAT IT READS IS OF BULK AT MOST 1048576: true; the input reads as it did. -/
def httpdatePrintsUptoRow : OpenClaim := { program := "ytgogoncpnfojkaa", sum := "da31186e82557a1e8ac47b332b6887a4beb2630e1f16adcc44c6c5ac18076030", func := "abutment/abutmentlaw06.HttpdatePrints", spec := "httpdatePrints", inPlace := ["internal/abi.NoEscape"], unfollowed := true, recurses := true, apart := false, narrowed := true }
def HttpdatePrintsUptoSaid : Prop := httpdatePrintsUptoRow.holds Try.pinned (OpenSpec.upto httpdatePrintsSpec)

/-- 'abutmentlaw06.HttpdateBack', WHERE WHAT IT READS IS OF BULK AT MOST 1048576: true; the input reads as it did. -/
def httpdateBackUptoRow : OpenClaim := { program := "ytgogoncpnfojkaa", sum := "da31186e82557a1e8ac47b332b6887a4beb2630e1f16adcc44c6c5ac18076030", func := "abutment/abutmentlaw06.HttpdateBack", spec := "httpdateBack", inPlace := ["internal/abi.NoEscape"], unfollowed := true, recurses := true, apart := false, narrowed := true }
def HttpdateBackUptoSaid : Prop := httpdateBackUptoRow.holds Try.pinned (OpenSpec.upto httpdateBackSpec)

/-- 'abutmentlaw41.ClockPlays', WHERE WHAT IT READS IS OF BULK AT MOST 1048576: true; the input reads as it did. -/
def clockPlaysUptoRow : OpenClaim := { program := "ytgogoncpnfojkaa", sum := "da31186e82557a1e8ac47b332b6887a4beb2630e1f16adcc44c6c5ac18076030", func := "abutment/abutmentlaw41.ClockPlays", spec := "clockPlays", unfollowed := true, recurses := true, apart := false, narrowed := true }
def ClockPlaysUptoSaid : Prop := clockPlaysUptoRow.holds Try.pinned (OpenSpec.upto clockPlaysSpec)

/-- 'abutmentlaw41.ClockParts', WHERE WHAT IT READS IS OF BULK AT MOST 1048576: true; the input reads as it did. -/
def clockPartsUptoRow : OpenClaim := { program := "ytgogoncpnfojkaa", sum := "da31186e82557a1e8ac47b332b6887a4beb2630e1f16adcc44c6c5ac18076030", func := "abutment/abutmentlaw41.ClockParts", spec := "clockParts", unfollowed := true, recurses := true, apart := false, narrowed := true }
def ClockPartsUptoSaid : Prop := clockPartsUptoRow.holds Try.pinned (OpenSpec.upto clockPartsSpec)

/-- 'abutmentlaw44.ActAsserts', WHERE WHAT IT READS IS OF BULK AT MOST 1048576: true; the input reads as it did. -/
def actAssertsUptoRow : OpenClaim := { program := "ytgogoncpnfojkaa", sum := "da31186e82557a1e8ac47b332b6887a4beb2630e1f16adcc44c6c5ac18076030", func := "abutment/abutmentlaw44.ActAsserts", spec := "actAsserts", unfollowed := true, recurses := true, apart := false, narrowed := true }
def ActAssertsUptoSaid : Prop := actAssertsUptoRow.holds Try.pinned (OpenSpec.upto actAssertsSpec)

/-- 'abutmentlaw51.DiffLines', WHERE WHAT IT READS IS OF BULK AT MOST 1048576: true; the input reads as it did. -/
def diffLinesUptoRow : OpenClaim := { program := "ytgogoncpnfojkaa", sum := "da31186e82557a1e8ac47b332b6887a4beb2630e1f16adcc44c6c5ac18076030", func := "abutment/abutmentlaw51.DiffLines", spec := "diffLines", unfollowed := true, recurses := true, apart := false, narrowed := true }
def DiffLinesUptoSaid : Prop := diffLinesUptoRow.holds Try.pinned (OpenSpec.upto diffLinesSpec)

/-- 'abutmentlaw51.DiffHeads', WHERE WHAT IT READS IS OF BULK AT MOST 1048576: true; the input reads as it did. -/
def diffHeadsUptoRow : OpenClaim := { program := "ytgogoncpnfojkaa", sum := "da31186e82557a1e8ac47b332b6887a4beb2630e1f16adcc44c6c5ac18076030", func := "abutment/abutmentlaw51.DiffHeads", spec := "diffHeads", inPlace := ["internal/abi.NoEscape", "internal/bytealg.MakeNoZero"], unfollowed := true, recurses := true, apart := false, narrowed := true }
def DiffHeadsUptoSaid : Prop := diffHeadsUptoRow.holds Try.pinned (OpenSpec.upto diffHeadsSpec)

/-- 'abutmentlaw51.DiffApplies', WHERE WHAT IT READS IS OF BULK AT MOST 1048576: true; the input reads as it did. -/
def diffAppliesUptoRow : OpenClaim := { program := "ytgogoncpnfojkaa", sum := "da31186e82557a1e8ac47b332b6887a4beb2630e1f16adcc44c6c5ac18076030", func := "abutment/abutmentlaw51.DiffApplies", spec := "diffApplies", unfollowed := true, recurses := true, apart := false, narrowed := true }
def DiffAppliesUptoSaid : Prop := diffAppliesUptoRow.holds Try.pinned (OpenSpec.upto diffAppliesSpec)

/-- 'abutmentlaw51.DiffBack', WHERE WHAT IT READS IS OF BULK AT MOST 1048576: true; the input reads as it did. -/
def diffBackUptoRow : OpenClaim := { program := "ytgogoncpnfojkaa", sum := "da31186e82557a1e8ac47b332b6887a4beb2630e1f16adcc44c6c5ac18076030", func := "abutment/abutmentlaw51.DiffBack", spec := "diffBack", unfollowed := true, recurses := true, apart := false, narrowed := true }
def DiffBackUptoSaid : Prop := diffBackUptoRow.holds Try.pinned (OpenSpec.upto diffBackSpec)

end Rows
end Go.Proofs.Ytgogoncpnfojkaa
