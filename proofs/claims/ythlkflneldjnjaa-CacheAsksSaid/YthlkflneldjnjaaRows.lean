/-
  No cell of these rows narrows 'for every input' (looked for: loops, veiled, ifaces, maps, wideKeys, modest, calm, conditions, laid).
  DERIVED. THE GIVEN ROWS OF THIS SEAT. 10 by the template 'for every input the law returns true; each argument reads behind the call as it read before'; 0 by the template 'total and deterministic' (their statements: YthlkflneldjnjaaTotals.lean).
  GIVEN WITH THE SEED: the statements are not yours to turn. If you find one false, say at which input.
  Laid BY PROGRAM, IN A SANDBOX (cutbox-rows.mjs): the forced cells as the released guide's own fill.sh prints them over the translation dc48b9cb8cf39a20… (all of the seat's roots in one cut). By AI agents, Wed Nov 11 2026. No macro, syntax, notation, axiom, sorry.
-/
import Derived.Test.YthlkflneldjnjaaChecked
import GoSem.Claim
import GoSem.ClaimJoined
import GoSem.ClaimMapViews
import Derived.JoinedTies
import Derived.KernelRfl
namespace Go.Proofs.Ythlkflneldjnjaa
/- THE CELL 'sum', in the pinned program and in every row, IS THE sha256 OF THE DUMP (.gsa) THAT YthlkflneldjnjaaProg.lean LOADS. Nothing in Lean hashes anything: it is a label: what it is worth is what the hold of that sum in a sandbox is worth. -/
noncomputable def Try.pinned : Pinned := { name := "ythlkflneldjnjaa", sum := "dc48b9cb8cf39a20dedb9202a37f3c6b3ddbaa38bb4c83dcdc724bf912d872b7", checked := Try.checked }
namespace Rows
def none {H : Type} : Left H := { results := [], args := [] }

/-- 'abutmentlaw17.ConnectionWords': WHATEVER THE INPUT: true; the input reads as it did. -/
def connectionWordsSpec : ChangeSpec := { name := "connectionWords", fn := fun _ => fun
  | [d1, d2, d3] => { results := [.lit (.bool true)], args := [d1, d2, d3] }
  | _ => none }
def connectionWordsRow : OpenClaim := { program := "ythlkflneldjnjaa", sum := "dc48b9cb8cf39a20dedb9202a37f3c6b3ddbaa38bb4c83dcdc724bf912d872b7", func := "abutment/abutmentlaw17.ConnectionWords", spec := "connectionWords", inPlace := ["internal/abi.NoEscape", "internal/bytealg.MakeNoZero", "internal/bytealg.IndexByteString", "internal/bytealg.IndexString"], unfollowed := true, recurses := true, named := ["internal/bytealg.MaxLen"], apart := false }
def ConnectionWordsSaid : Prop := connectionWordsRow.holds Try.pinned (OpenSpec.ofChange connectionWordsSpec)

/-- ITS FALSE NEIGHBOUR: 'it returns false'. Refute it at one input. -/
def connectionWordsWrong : ChangeSpec := { name := "connectionWords", fn := fun _ => fun
  | [d1, d2, d3] => { results := [.lit (.bool false)], args := [d1, d2, d3] }
  | _ => none }
def ConnectionWordsWrongFalsely : Prop := connectionWordsRow.holds Try.pinned (OpenSpec.ofChange connectionWordsWrong)

/-- 'abutmentlaw17.ConnectionAlive': WHATEVER THE INPUT: true; the input reads as it did. -/
def connectionAliveSpec : ChangeSpec := { name := "connectionAlive", fn := fun _ => fun
  | [d] => { results := [.lit (.bool true)], args := [d] }
  | _ => none }
def connectionAliveRow : OpenClaim := { program := "ythlkflneldjnjaa", sum := "dc48b9cb8cf39a20dedb9202a37f3c6b3ddbaa38bb4c83dcdc724bf912d872b7", func := "abutment/abutmentlaw17.ConnectionAlive", spec := "connectionAlive", inPlace := ["internal/abi.NoEscape", "internal/bytealg.MakeNoZero", "internal/bytealg.IndexByteString", "internal/bytealg.IndexString"], unfollowed := true, recurses := true, named := ["internal/bytealg.MaxLen"], apart := false }
def ConnectionAliveSaid : Prop := connectionAliveRow.holds Try.pinned (OpenSpec.ofChange connectionAliveSpec)

/-- ITS FALSE NEIGHBOUR: 'it returns false'. Refute it at one input. -/
def connectionAliveWrong : ChangeSpec := { name := "connectionAlive", fn := fun _ => fun
  | [d] => { results := [.lit (.bool false)], args := [d] }
  | _ => none }
def ConnectionAliveWrongFalsely : Prop := connectionAliveRow.holds Try.pinned (OpenSpec.ofChange connectionAliveWrong)

/-- 'abutmentlaw17.ConnectionClose': WHATEVER THE INPUT: true; the input reads as it did. -/
def connectionCloseSpec : ChangeSpec := { name := "connectionClose", fn := fun _ => fun
  | [d1, d2] => { results := [.lit (.bool true)], args := [d1, d2] }
  | _ => none }
def connectionCloseRow : OpenClaim := { program := "ythlkflneldjnjaa", sum := "dc48b9cb8cf39a20dedb9202a37f3c6b3ddbaa38bb4c83dcdc724bf912d872b7", func := "abutment/abutmentlaw17.ConnectionClose", spec := "connectionClose", inPlace := ["internal/abi.NoEscape", "internal/bytealg.MakeNoZero", "internal/bytealg.IndexByteString", "internal/bytealg.IndexString"], unfollowed := true, recurses := true, named := ["internal/bytealg.MaxLen"], apart := false }
def ConnectionCloseSaid : Prop := connectionCloseRow.holds Try.pinned (OpenSpec.ofChange connectionCloseSpec)

/-- ITS FALSE NEIGHBOUR: 'it returns false'. Refute it at one input. -/
def connectionCloseWrong : ChangeSpec := { name := "connectionClose", fn := fun _ => fun
  | [d1, d2] => { results := [.lit (.bool false)], args := [d1, d2] }
  | _ => none }
def ConnectionCloseWrongFalsely : Prop := connectionCloseRow.holds Try.pinned (OpenSpec.ofChange connectionCloseWrong)

/-- 'abutmentlaw19.CodingChunked': WHATEVER THE INPUT: true; the input reads as it did. -/
def codingChunkedSpec : ChangeSpec := { name := "codingChunked", fn := fun _ => fun
  | [d] => { results := [.lit (.bool true)], args := [d] }
  | _ => none }
def codingChunkedRow : OpenClaim := { program := "ythlkflneldjnjaa", sum := "dc48b9cb8cf39a20dedb9202a37f3c6b3ddbaa38bb4c83dcdc724bf912d872b7", func := "abutment/abutmentlaw19.CodingChunked", spec := "codingChunked", inPlace := ["internal/abi.NoEscape", "internal/bytealg.MakeNoZero"], unfollowed := true, recurses := true, apart := false }
def CodingChunkedSaid : Prop := codingChunkedRow.holds Try.pinned (OpenSpec.ofChange codingChunkedSpec)

/-- ITS FALSE NEIGHBOUR: 'it returns false'. Refute it at one input. -/
def codingChunkedWrong : ChangeSpec := { name := "codingChunked", fn := fun _ => fun
  | [d] => { results := [.lit (.bool false)], args := [d] }
  | _ => none }
def CodingChunkedWrongFalsely : Prop := codingChunkedRow.holds Try.pinned (OpenSpec.ofChange codingChunkedWrong)

/-- 'abutmentlaw19.CodingOnly': WHATEVER THE INPUT: true; the input reads as it did. -/
def codingOnlySpec : ChangeSpec := { name := "codingOnly", fn := fun _ => fun
  | [d1, d2] => { results := [.lit (.bool true)], args := [d1, d2] }
  | _ => none }
def codingOnlyRow : OpenClaim := { program := "ythlkflneldjnjaa", sum := "dc48b9cb8cf39a20dedb9202a37f3c6b3ddbaa38bb4c83dcdc724bf912d872b7", func := "abutment/abutmentlaw19.CodingOnly", spec := "codingOnly", inPlace := ["internal/abi.NoEscape", "internal/bytealg.MakeNoZero"], unfollowed := true, recurses := true, apart := false }
def CodingOnlySaid : Prop := codingOnlyRow.holds Try.pinned (OpenSpec.ofChange codingOnlySpec)

/-- ITS FALSE NEIGHBOUR: 'it returns false'. Refute it at one input. -/
def codingOnlyWrong : ChangeSpec := { name := "codingOnly", fn := fun _ => fun
  | [d1, d2] => { results := [.lit (.bool false)], args := [d1, d2] }
  | _ => none }
def CodingOnlyWrongFalsely : Prop := codingOnlyRow.holds Try.pinned (OpenSpec.ofChange codingOnlyWrong)

/-- 'abutmentlaw29.HopStrips': WHATEVER THE INPUT: true; the input reads as it did. -/
def hopStripsSpec : ChangeSpec := { name := "hopStrips", fn := fun _ => fun
  | [d] => { results := [.lit (.bool true)], args := [d] }
  | _ => none }
def hopStripsRow : OpenClaim := { program := "ythlkflneldjnjaa", sum := "dc48b9cb8cf39a20dedb9202a37f3c6b3ddbaa38bb4c83dcdc724bf912d872b7", func := "abutment/abutmentlaw29.HopStrips", spec := "hopStrips", inPlace := ["internal/abi.NoEscape", "internal/bytealg.MakeNoZero"], unfollowed := true, recurses := true, apart := false }
def HopStripsSaid : Prop := hopStripsRow.holds Try.pinned (OpenSpec.ofChange hopStripsSpec)

/-- ITS FALSE NEIGHBOUR: 'it returns false'. Refute it at one input. -/
def hopStripsWrong : ChangeSpec := { name := "hopStrips", fn := fun _ => fun
  | [d] => { results := [.lit (.bool false)], args := [d] }
  | _ => none }
def HopStripsWrongFalsely : Prop := hopStripsRow.holds Try.pinned (OpenSpec.ofChange hopStripsWrong)

/-- 'abutmentlaw29.HopLeaves': WHATEVER THE INPUT: true; the input reads as it did. -/
def hopLeavesSpec : ChangeSpec := { name := "hopLeaves", fn := fun _ => fun
  | [d] => { results := [.lit (.bool true)], args := [d] }
  | _ => none }
def hopLeavesRow : OpenClaim := { program := "ythlkflneldjnjaa", sum := "dc48b9cb8cf39a20dedb9202a37f3c6b3ddbaa38bb4c83dcdc724bf912d872b7", func := "abutment/abutmentlaw29.HopLeaves", spec := "hopLeaves", inPlace := ["internal/abi.NoEscape", "internal/bytealg.MakeNoZero"], unfollowed := true, recurses := true, apart := false }
def HopLeavesSaid : Prop := hopLeavesRow.holds Try.pinned (OpenSpec.ofChange hopLeavesSpec)

/-- ITS FALSE NEIGHBOUR: 'it returns false'. Refute it at one input. -/
def hopLeavesWrong : ChangeSpec := { name := "hopLeaves", fn := fun _ => fun
  | [d] => { results := [.lit (.bool false)], args := [d] }
  | _ => none }
def HopLeavesWrongFalsely : Prop := hopLeavesRow.holds Try.pinned (OpenSpec.ofChange hopLeavesWrong)

/-- 'abutmentlaw21.CacheParses': WHATEVER THE INPUT: true; the input reads as it did. -/
def cacheParsesSpec : ChangeSpec := { name := "cacheParses", fn := fun _ => fun
  | [d1, d2] => { results := [.lit (.bool true)], args := [d1, d2] }
  | _ => none }
def cacheParsesRow : OpenClaim := { program := "ythlkflneldjnjaa", sum := "dc48b9cb8cf39a20dedb9202a37f3c6b3ddbaa38bb4c83dcdc724bf912d872b7", func := "abutment/abutmentlaw21.CacheParses", spec := "cacheParses", inPlace := ["internal/abi.NoEscape", "internal/bytealg.MakeNoZero"], unfollowed := true, recurses := true, apart := false }
def CacheParsesSaid : Prop := cacheParsesRow.holds Try.pinned (OpenSpec.ofChange cacheParsesSpec)

/-- ITS FALSE NEIGHBOUR: 'it returns false'. Refute it at one input. -/
def cacheParsesWrong : ChangeSpec := { name := "cacheParses", fn := fun _ => fun
  | [d1, d2] => { results := [.lit (.bool false)], args := [d1, d2] }
  | _ => none }
def CacheParsesWrongFalsely : Prop := cacheParsesRow.holds Try.pinned (OpenSpec.ofChange cacheParsesWrong)

/-- 'abutmentlaw21.CacheAsks': WHATEVER THE INPUT: true; the input reads as it did. -/
def cacheAsksSpec : ChangeSpec := { name := "cacheAsks", fn := fun _ => fun
  | [d1, d2] => { results := [.lit (.bool true)], args := [d1, d2] }
  | _ => none }
def cacheAsksRow : OpenClaim := { program := "ythlkflneldjnjaa", sum := "dc48b9cb8cf39a20dedb9202a37f3c6b3ddbaa38bb4c83dcdc724bf912d872b7", func := "abutment/abutmentlaw21.CacheAsks", spec := "cacheAsks", inPlace := ["internal/abi.NoEscape", "internal/bytealg.MakeNoZero"], unfollowed := true, recurses := true, apart := false }
def CacheAsksSaid : Prop := cacheAsksRow.holds Try.pinned (OpenSpec.ofChange cacheAsksSpec)

/-- ITS FALSE NEIGHBOUR: 'it returns false'. Refute it at one input. -/
def cacheAsksWrong : ChangeSpec := { name := "cacheAsks", fn := fun _ => fun
  | [d1, d2] => { results := [.lit (.bool false)], args := [d1, d2] }
  | _ => none }
def CacheAsksWrongFalsely : Prop := cacheAsksRow.holds Try.pinned (OpenSpec.ofChange cacheAsksWrong)

/-- 'abutmentlaw21.CacheBack': WHATEVER THE INPUT: true; the input reads as it did. -/
def cacheBackSpec : ChangeSpec := { name := "cacheBack", fn := fun _ => fun
  | [d] => { results := [.lit (.bool true)], args := [d] }
  | _ => none }
def cacheBackRow : OpenClaim := { program := "ythlkflneldjnjaa", sum := "dc48b9cb8cf39a20dedb9202a37f3c6b3ddbaa38bb4c83dcdc724bf912d872b7", func := "abutment/abutmentlaw21.CacheBack", spec := "cacheBack", inPlace := ["internal/abi.NoEscape", "internal/bytealg.MakeNoZero"], unfollowed := true, recurses := true, apart := false }
def CacheBackSaid : Prop := cacheBackRow.holds Try.pinned (OpenSpec.ofChange cacheBackSpec)

/-- ITS FALSE NEIGHBOUR: 'it returns false'. Refute it at one input. -/
def cacheBackWrong : ChangeSpec := { name := "cacheBack", fn := fun _ => fun
  | [d] => { results := [.lit (.bool false)], args := [d] }
  | _ => none }
def CacheBackWrongFalsely : Prop := cacheBackRow.holds Try.pinned (OpenSpec.ofChange cacheBackWrong)

/- THE SECOND FORM. 'bulk': how many values and letters a reading holds, each counted each time it is reached (what is shared counts as often as it is met; a slice's spare places count too). A statement '..UptoSaid' is the law's where the arguments, and the package variables that the reading takes, are together of bulk at most 1048576: NARROWER than '..Said'. Prove '..Said' where nothing that the law and all that it calls make is longer than what came in: it says more and counts as full. Else prove '..UptoSaid'. A law counts once. -/
mutual
def uptoBulk {H : Type} : DataW H → Nat
  | .lit (.string bytes) => bytes.length + 1
  | .lit _ => 1
  | .nil => 1
  | .ptr d => uptoBulk d + 1
  | .slice elems spare => uptoBulkAll elems + uptoBulkAll spare + 1
  | .agg parts => uptoBulkAll parts + 1
  | .iface _ d => uptoBulk d + 1
  | .map entries => uptoBulkEntries entries + 1
  | .held _ => 1
def uptoBulkAll {H : Type} : List (DataW H) → Nat
  | [] => 0
  | d :: r => uptoBulk d + uptoBulkAll r
def uptoBulkEntries {H : Type} : List (Lit × DataW H) → Nat
  | [] => 0
  | x :: r => uptoBulkEntry x + uptoBulkEntries r
def uptoBulkEntry {H : Type} : Lit × DataW H → Nat
  | (.string bytes, d) => bytes.length + uptoBulk d + 1
  | (_, d) => uptoBulk d + 1
 end
def uptoSmall : (H : Type) → List (DataW H) → Bool := fun _ ds => decide (uptoBulkAll ds ≤ 1048576)
def OpenSpec.upto (s : _root_.Go.ChangeSpec) : _root_.Go.OpenSpec := { _root_.Go.OpenSpec.ofChange s with cond := some uptoSmall }

/-- 'abutmentlaw17.ConnectionWords', WHERE WHAT IT READS IS OF BULK AT MOST 1048576: true; the input reads as it did. -/
def connectionWordsUptoRow : OpenClaim := { program := "ythlkflneldjnjaa", sum := "dc48b9cb8cf39a20dedb9202a37f3c6b3ddbaa38bb4c83dcdc724bf912d872b7", func := "abutment/abutmentlaw17.ConnectionWords", spec := "connectionWords", inPlace := ["internal/abi.NoEscape", "internal/bytealg.MakeNoZero", "internal/bytealg.IndexByteString", "internal/bytealg.IndexString"], unfollowed := true, recurses := true, named := ["internal/bytealg.MaxLen"], apart := false, narrowed := true }
def ConnectionWordsUptoSaid : Prop := connectionWordsUptoRow.holds Try.pinned (OpenSpec.upto connectionWordsSpec)

/-- 'abutmentlaw17.ConnectionAlive', WHERE WHAT IT READS IS OF BULK AT MOST 1048576: true; the input reads as it did. -/
def connectionAliveUptoRow : OpenClaim := { program := "ythlkflneldjnjaa", sum := "dc48b9cb8cf39a20dedb9202a37f3c6b3ddbaa38bb4c83dcdc724bf912d872b7", func := "abutment/abutmentlaw17.ConnectionAlive", spec := "connectionAlive", inPlace := ["internal/abi.NoEscape", "internal/bytealg.MakeNoZero", "internal/bytealg.IndexByteString", "internal/bytealg.IndexString"], unfollowed := true, recurses := true, named := ["internal/bytealg.MaxLen"], apart := false, narrowed := true }
def ConnectionAliveUptoSaid : Prop := connectionAliveUptoRow.holds Try.pinned (OpenSpec.upto connectionAliveSpec)

/-- 'abutmentlaw17.ConnectionClose', WHERE WHAT IT READS IS OF BULK AT MOST 1048576: true; the input reads as it did. -/
def connectionCloseUptoRow : OpenClaim := { program := "ythlkflneldjnjaa", sum := "dc48b9cb8cf39a20dedb9202a37f3c6b3ddbaa38bb4c83dcdc724bf912d872b7", func := "abutment/abutmentlaw17.ConnectionClose", spec := "connectionClose", inPlace := ["internal/abi.NoEscape", "internal/bytealg.MakeNoZero", "internal/bytealg.IndexByteString", "internal/bytealg.IndexString"], unfollowed := true, recurses := true, named := ["internal/bytealg.MaxLen"], apart := false, narrowed := true }
def ConnectionCloseUptoSaid : Prop := connectionCloseUptoRow.holds Try.pinned (OpenSpec.upto connectionCloseSpec)

/-- 'abutmentlaw19.CodingChunked', WHERE WHAT IT READS IS OF BULK AT MOST 1048576: true; the input reads as it did. -/
def codingChunkedUptoRow : OpenClaim := { program := "ythlkflneldjnjaa", sum := "dc48b9cb8cf39a20dedb9202a37f3c6b3ddbaa38bb4c83dcdc724bf912d872b7", func := "abutment/abutmentlaw19.CodingChunked", spec := "codingChunked", inPlace := ["internal/abi.NoEscape", "internal/bytealg.MakeNoZero"], unfollowed := true, recurses := true, apart := false, narrowed := true }
def CodingChunkedUptoSaid : Prop := codingChunkedUptoRow.holds Try.pinned (OpenSpec.upto codingChunkedSpec)

/-- 'abutmentlaw19.CodingOnly', WHERE WHAT IT READS IS OF BULK AT MOST 1048576: true; the input reads as it did. -/
def codingOnlyUptoRow : OpenClaim := { program := "ythlkflneldjnjaa", sum := "dc48b9cb8cf39a20dedb9202a37f3c6b3ddbaa38bb4c83dcdc724bf912d872b7", func := "abutment/abutmentlaw19.CodingOnly", spec := "codingOnly", inPlace := ["internal/abi.NoEscape", "internal/bytealg.MakeNoZero"], unfollowed := true, recurses := true, apart := false, narrowed := true }
def CodingOnlyUptoSaid : Prop := codingOnlyUptoRow.holds Try.pinned (OpenSpec.upto codingOnlySpec)

/-- 'abutmentlaw29.HopStrips', WHERE WHAT IT READS IS OF BULK AT MOST 1048576: true; the input reads as it did. -/
def hopStripsUptoRow : OpenClaim := { program := "ythlkflneldjnjaa", sum := "dc48b9cb8cf39a20dedb9202a37f3c6b3ddbaa38bb4c83dcdc724bf912d872b7", func := "abutment/abutmentlaw29.HopStrips", spec := "hopStrips", inPlace := ["internal/abi.NoEscape", "internal/bytealg.MakeNoZero"], unfollowed := true, recurses := true, apart := false, narrowed := true }
def HopStripsUptoSaid : Prop := hopStripsUptoRow.holds Try.pinned (OpenSpec.upto hopStripsSpec)

/-- 'abutmentlaw29.HopLeaves', WHERE WHAT IT READS IS OF BULK AT MOST 1048576: true; the input reads as it did. -/
def hopLeavesUptoRow : OpenClaim := { program := "ythlkflneldjnjaa", sum := "dc48b9cb8cf39a20dedb9202a37f3c6b3ddbaa38bb4c83dcdc724bf912d872b7", func := "abutment/abutmentlaw29.HopLeaves", spec := "hopLeaves", inPlace := ["internal/abi.NoEscape", "internal/bytealg.MakeNoZero"], unfollowed := true, recurses := true, apart := false, narrowed := true }
def HopLeavesUptoSaid : Prop := hopLeavesUptoRow.holds Try.pinned (OpenSpec.upto hopLeavesSpec)

/-- 'abutmentlaw21.CacheParses', WHERE WHAT IT READS IS OF BULK AT MOST 1048576: true; the input reads as it did. -/
def cacheParsesUptoRow : OpenClaim := { program := "ythlkflneldjnjaa", sum := "dc48b9cb8cf39a20dedb9202a37f3c6b3ddbaa38bb4c83dcdc724bf912d872b7", func := "abutment/abutmentlaw21.CacheParses", spec := "cacheParses", inPlace := ["internal/abi.NoEscape", "internal/bytealg.MakeNoZero"], unfollowed := true, recurses := true, apart := false, narrowed := true }
def CacheParsesUptoSaid : Prop := cacheParsesUptoRow.holds Try.pinned (OpenSpec.upto cacheParsesSpec)

/-- 'abutmentlaw21.CacheAsks', WHERE WHAT IT READS IS OF BULK AT MOST 1048576: true; the input reads as it did. -/
def cacheAsksUptoRow : OpenClaim := { program := "ythlkflneldjnjaa", sum := "dc48b9cb8cf39a20dedb9202a37f3c6b3ddbaa38bb4c83dcdc724bf912d872b7", func := "abutment/abutmentlaw21.CacheAsks", spec := "cacheAsks", inPlace := ["internal/abi.NoEscape", "internal/bytealg.MakeNoZero"], unfollowed := true, recurses := true, apart := false, narrowed := true }
def CacheAsksUptoSaid : Prop := cacheAsksUptoRow.holds Try.pinned (OpenSpec.upto cacheAsksSpec)

/-- 'abutmentlaw21.CacheBack', WHERE WHAT IT READS IS OF BULK AT MOST 1048576: true; the input reads as it did. -/
def cacheBackUptoRow : OpenClaim := { program := "ythlkflneldjnjaa", sum := "dc48b9cb8cf39a20dedb9202a37f3c6b3ddbaa38bb4c83dcdc724bf912d872b7", func := "abutment/abutmentlaw21.CacheBack", spec := "cacheBack", inPlace := ["internal/abi.NoEscape", "internal/bytealg.MakeNoZero"], unfollowed := true, recurses := true, apart := false, narrowed := true }
def CacheBackUptoSaid : Prop := cacheBackUptoRow.holds Try.pinned (OpenSpec.upto cacheBackSpec)

end Rows
end Go.Proofs.Ythlkflneldjnjaa
