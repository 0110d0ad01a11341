/-
  No cell of these rows narrows 'for every input' (looked for: loops, veiled, ifaces, maps, wideKeys, modest, calm, conditions, laid).
  DERIVED. THE GIVEN ROWS OF THIS SEAT. 12 by the template 'for every input the law returns true; each argument reads behind the call as it read before'; 0 by the template 'total and deterministic' (their statements: YtjbadcfhhcmnoaaTotals.lean).
  GIVEN WITH THE SEED: the statements are not yours to turn. If you find one false, say at which input.
  Laid BY PROGRAM, IN A SANDBOX (cutbox-rows.mjs): the forced cells as the released guide's own fill.sh prints them over the translation b4b8ead5b54c173e… (all of the seat's roots in one cut). By AI agents, Wed Nov 11 2026. No macro, syntax, notation, axiom, sorry.
-/
import Derived.Test.YtjbadcfhhcmnoaaChecked
import GoSem.Claim
import GoSem.ClaimJoined
import GoSem.ClaimMapViews
import Derived.JoinedTies
import Derived.KernelRfl
namespace Go.Proofs.Ytjbadcfhhcmnoaa
/- THE CELL 'sum', in the pinned program and in every row, IS THE sha256 OF THE DUMP (.gsa) THAT YtjbadcfhhcmnoaaProg.lean LOADS. Nothing in Lean hashes anything: it is a label: what it is worth is what the hold of that sum in a sandbox is worth. -/
noncomputable def Try.pinned : Pinned := { name := "ytjbadcfhhcmnoaa", sum := "b4b8ead5b54c173edf208ed6dc616402fa1880e1ccf5f5539ee819102363b3a4", checked := Try.checked }
namespace Rows
def none {H : Type} : Left H := { results := [], args := [] }

/-- 'abutmentlaw04.CursorPlays': WHATEVER THE INPUT: true; the input reads as it did. -/
def cursorPlaysSpec : ChangeSpec := { name := "cursorPlays", fn := fun _ => fun
  | [d1, d2] => { results := [.lit (.bool true)], args := [d1, d2] }
  | _ => none }
def cursorPlaysRow : OpenClaim := { program := "ytjbadcfhhcmnoaa", sum := "b4b8ead5b54c173edf208ed6dc616402fa1880e1ccf5f5539ee819102363b3a4", func := "abutment/abutmentlaw04.CursorPlays", spec := "cursorPlays", unfollowed := true, recurses := true, apart := false }
def CursorPlaysSaid : Prop := cursorPlaysRow.holds Try.pinned (OpenSpec.ofChange cursorPlaysSpec)

/-- ITS FALSE NEIGHBOUR: 'it returns false'. Refute it at one input. -/
def cursorPlaysWrong : ChangeSpec := { name := "cursorPlays", fn := fun _ => fun
  | [d1, d2] => { results := [.lit (.bool false)], args := [d1, d2] }
  | _ => none }
def CursorPlaysWrongFalsely : Prop := cursorPlaysRow.holds Try.pinned (OpenSpec.ofChange cursorPlaysWrong)

/-- 'abutmentlaw04.CursorQuotes': WHATEVER THE INPUT: true; the input reads as it did. -/
def cursorQuotesSpec : ChangeSpec := { name := "cursorQuotes", fn := fun _ => fun
  | [d] => { results := [.lit (.bool true)], args := [d] }
  | _ => none }
def cursorQuotesRow : OpenClaim := { program := "ytjbadcfhhcmnoaa", sum := "b4b8ead5b54c173edf208ed6dc616402fa1880e1ccf5f5539ee819102363b3a4", func := "abutment/abutmentlaw04.CursorQuotes", spec := "cursorQuotes", unfollowed := true, recurses := true, apart := false }
def CursorQuotesSaid : Prop := cursorQuotesRow.holds Try.pinned (OpenSpec.ofChange cursorQuotesSpec)

/-- ITS FALSE NEIGHBOUR: 'it returns false'. Refute it at one input. -/
def cursorQuotesWrong : ChangeSpec := { name := "cursorQuotes", fn := fun _ => fun
  | [d] => { results := [.lit (.bool false)], args := [d] }
  | _ => none }
def CursorQuotesWrongFalsely : Prop := cursorQuotesRow.holds Try.pinned (OpenSpec.ofChange cursorQuotesWrong)

/-- 'abutmentlaw04.CursorBack': WHATEVER THE INPUT: true; the input reads as it did. -/
def cursorBackSpec : ChangeSpec := { name := "cursorBack", fn := fun _ => fun
  | [d1, d2] => { results := [.lit (.bool true)], args := [d1, d2] }
  | _ => none }
def cursorBackRow : OpenClaim := { program := "ytjbadcfhhcmnoaa", sum := "b4b8ead5b54c173edf208ed6dc616402fa1880e1ccf5f5539ee819102363b3a4", func := "abutment/abutmentlaw04.CursorBack", spec := "cursorBack", unfollowed := true, recurses := true, apart := false }
def CursorBackSaid : Prop := cursorBackRow.holds Try.pinned (OpenSpec.ofChange cursorBackSpec)

/-- ITS FALSE NEIGHBOUR: 'it returns false'. Refute it at one input. -/
def cursorBackWrong : ChangeSpec := { name := "cursorBack", fn := fun _ => fun
  | [d1, d2] => { results := [.lit (.bool false)], args := [d1, d2] }
  | _ => none }
def CursorBackWrongFalsely : Prop := cursorBackRow.holds Try.pinned (OpenSpec.ofChange cursorBackWrong)

/-- 'abutmentlaw08.ParamsParse': WHATEVER THE INPUT: true; the input reads as it did. -/
def paramsParseSpec : ChangeSpec := { name := "paramsParse", fn := fun _ => fun
  | [d] => { results := [.lit (.bool true)], args := [d] }
  | _ => none }
def paramsParseRow : OpenClaim := { program := "ytjbadcfhhcmnoaa", sum := "b4b8ead5b54c173edf208ed6dc616402fa1880e1ccf5f5539ee819102363b3a4", func := "abutment/abutmentlaw08.ParamsParse", spec := "paramsParse", unfollowed := true, recurses := true, apart := false }
def ParamsParseSaid : Prop := paramsParseRow.holds Try.pinned (OpenSpec.ofChange paramsParseSpec)

/-- ITS FALSE NEIGHBOUR: 'it returns false'. Refute it at one input. -/
def paramsParseWrong : ChangeSpec := { name := "paramsParse", fn := fun _ => fun
  | [d] => { results := [.lit (.bool false)], args := [d] }
  | _ => none }
def ParamsParseWrongFalsely : Prop := paramsParseRow.holds Try.pinned (OpenSpec.ofChange paramsParseWrong)

/-- 'abutmentlaw08.ParamsPrint': WHATEVER THE INPUT: true; the input reads as it did. -/
def paramsPrintSpec : ChangeSpec := { name := "paramsPrint", fn := fun _ => fun
  | [d1, d2] => { results := [.lit (.bool true)], args := [d1, d2] }
  | _ => none }
def paramsPrintRow : OpenClaim := { program := "ytjbadcfhhcmnoaa", sum := "b4b8ead5b54c173edf208ed6dc616402fa1880e1ccf5f5539ee819102363b3a4", func := "abutment/abutmentlaw08.ParamsPrint", spec := "paramsPrint", unfollowed := true, recurses := true, apart := false }
def ParamsPrintSaid : Prop := paramsPrintRow.holds Try.pinned (OpenSpec.ofChange paramsPrintSpec)

/-- ITS FALSE NEIGHBOUR: 'it returns false'. Refute it at one input. -/
def paramsPrintWrong : ChangeSpec := { name := "paramsPrint", fn := fun _ => fun
  | [d1, d2] => { results := [.lit (.bool false)], args := [d1, d2] }
  | _ => none }
def ParamsPrintWrongFalsely : Prop := paramsPrintRow.holds Try.pinned (OpenSpec.ofChange paramsPrintWrong)

/-- 'abutmentlaw08.ParamsBack': WHATEVER THE INPUT: true; the input reads as it did. -/
def paramsBackSpec : ChangeSpec := { name := "paramsBack", fn := fun _ => fun
  | [d1, d2, d3] => { results := [.lit (.bool true)], args := [d1, d2, d3] }
  | _ => none }
def paramsBackRow : OpenClaim := { program := "ytjbadcfhhcmnoaa", sum := "b4b8ead5b54c173edf208ed6dc616402fa1880e1ccf5f5539ee819102363b3a4", func := "abutment/abutmentlaw08.ParamsBack", spec := "paramsBack", unfollowed := true, recurses := true, apart := false }
def ParamsBackSaid : Prop := paramsBackRow.holds Try.pinned (OpenSpec.ofChange paramsBackSpec)

/-- ITS FALSE NEIGHBOUR: 'it returns false'. Refute it at one input. -/
def paramsBackWrong : ChangeSpec := { name := "paramsBack", fn := fun _ => fun
  | [d1, d2, d3] => { results := [.lit (.bool false)], args := [d1, d2, d3] }
  | _ => none }
def ParamsBackWrongFalsely : Prop := paramsBackRow.holds Try.pinned (OpenSpec.ofChange paramsBackWrong)

/-- 'abutmentlaw11.HostParses': WHATEVER THE INPUT: true; the input reads as it did. -/
def hostParsesSpec : ChangeSpec := { name := "hostParses", fn := fun _ => fun
  | [d] => { results := [.lit (.bool true)], args := [d] }
  | _ => none }
def hostParsesRow : OpenClaim := { program := "ytjbadcfhhcmnoaa", sum := "b4b8ead5b54c173edf208ed6dc616402fa1880e1ccf5f5539ee819102363b3a4", func := "abutment/abutmentlaw11.HostParses", spec := "hostParses", inPlace := ["internal/bytealg.IndexByteString", "internal/bytealg.IndexString"], unfollowed := true, recurses := true, named := ["internal/bytealg.MaxLen"], apart := false }
def HostParsesSaid : Prop := hostParsesRow.holds Try.pinned (OpenSpec.ofChange hostParsesSpec)

/-- ITS FALSE NEIGHBOUR: 'it returns false'. Refute it at one input. -/
def hostParsesWrong : ChangeSpec := { name := "hostParses", fn := fun _ => fun
  | [d] => { results := [.lit (.bool false)], args := [d] }
  | _ => none }
def HostParsesWrongFalsely : Prop := hostParsesRow.holds Try.pinned (OpenSpec.ofChange hostParsesWrong)

/-- 'abutmentlaw11.HostText': WHATEVER THE INPUT: true; the input reads as it did. -/
def hostTextSpec : ChangeSpec := { name := "hostText", fn := fun _ => fun
  | [d1, d2] => { results := [.lit (.bool true)], args := [d1, d2] }
  | _ => none }
def hostTextRow : OpenClaim := { program := "ytjbadcfhhcmnoaa", sum := "b4b8ead5b54c173edf208ed6dc616402fa1880e1ccf5f5539ee819102363b3a4", func := "abutment/abutmentlaw11.HostText", spec := "hostText", inPlace := ["internal/bytealg.IndexByteString", "internal/bytealg.IndexString"], unfollowed := true, recurses := true, named := ["internal/bytealg.MaxLen"], apart := false }
def HostTextSaid : Prop := hostTextRow.holds Try.pinned (OpenSpec.ofChange hostTextSpec)

/-- ITS FALSE NEIGHBOUR: 'it returns false'. Refute it at one input. -/
def hostTextWrong : ChangeSpec := { name := "hostText", fn := fun _ => fun
  | [d1, d2] => { results := [.lit (.bool false)], args := [d1, d2] }
  | _ => none }
def HostTextWrongFalsely : Prop := hostTextRow.holds Try.pinned (OpenSpec.ofChange hostTextWrong)

/-- 'abutmentlaw11.HostBack': WHATEVER THE INPUT: true; the input reads as it did. -/
def hostBackSpec : ChangeSpec := { name := "hostBack", fn := fun _ => fun
  | [d] => { results := [.lit (.bool true)], args := [d] }
  | _ => none }
def hostBackRow : OpenClaim := { program := "ytjbadcfhhcmnoaa", sum := "b4b8ead5b54c173edf208ed6dc616402fa1880e1ccf5f5539ee819102363b3a4", func := "abutment/abutmentlaw11.HostBack", spec := "hostBack", inPlace := ["internal/bytealg.IndexByteString", "internal/bytealg.IndexString"], unfollowed := true, recurses := true, named := ["internal/bytealg.MaxLen"], apart := false }
def HostBackSaid : Prop := hostBackRow.holds Try.pinned (OpenSpec.ofChange hostBackSpec)

/-- ITS FALSE NEIGHBOUR: 'it returns false'. Refute it at one input. -/
def hostBackWrong : ChangeSpec := { name := "hostBack", fn := fun _ => fun
  | [d] => { results := [.lit (.bool false)], args := [d] }
  | _ => none }
def HostBackWrongFalsely : Prop := hostBackRow.holds Try.pinned (OpenSpec.ofChange hostBackWrong)

/-- 'abutmentlaw14.ChunkParses': WHATEVER THE INPUT: true; the input reads as it did. -/
def chunkParsesSpec : ChangeSpec := { name := "chunkParses", fn := fun _ => fun
  | [d] => { results := [.lit (.bool true)], args := [d] }
  | _ => none }
def chunkParsesRow : OpenClaim := { program := "ytjbadcfhhcmnoaa", sum := "b4b8ead5b54c173edf208ed6dc616402fa1880e1ccf5f5539ee819102363b3a4", func := "abutment/abutmentlaw14.ChunkParses", spec := "chunkParses", unfollowed := true, recurses := true, apart := false }
def ChunkParsesSaid : Prop := chunkParsesRow.holds Try.pinned (OpenSpec.ofChange chunkParsesSpec)

/-- ITS FALSE NEIGHBOUR: 'it returns false'. Refute it at one input. -/
def chunkParsesWrong : ChangeSpec := { name := "chunkParses", fn := fun _ => fun
  | [d] => { results := [.lit (.bool false)], args := [d] }
  | _ => none }
def ChunkParsesWrongFalsely : Prop := chunkParsesRow.holds Try.pinned (OpenSpec.ofChange chunkParsesWrong)

/-- 'abutmentlaw14.ChunkSizes': WHATEVER THE INPUT: true; the input reads as it did. -/
def chunkSizesSpec : ChangeSpec := { name := "chunkSizes", fn := fun _ => fun
  | [d1, d2] => { results := [.lit (.bool true)], args := [d1, d2] }
  | _ => none }
def chunkSizesRow : OpenClaim := { program := "ytjbadcfhhcmnoaa", sum := "b4b8ead5b54c173edf208ed6dc616402fa1880e1ccf5f5539ee819102363b3a4", func := "abutment/abutmentlaw14.ChunkSizes", spec := "chunkSizes", unfollowed := true, recurses := true, apart := false }
def ChunkSizesSaid : Prop := chunkSizesRow.holds Try.pinned (OpenSpec.ofChange chunkSizesSpec)

/-- ITS FALSE NEIGHBOUR: 'it returns false'. Refute it at one input. -/
def chunkSizesWrong : ChangeSpec := { name := "chunkSizes", fn := fun _ => fun
  | [d1, d2] => { results := [.lit (.bool false)], args := [d1, d2] }
  | _ => none }
def ChunkSizesWrongFalsely : Prop := chunkSizesRow.holds Try.pinned (OpenSpec.ofChange chunkSizesWrong)

/-- 'abutmentlaw14.ChunkBack': WHATEVER THE INPUT: true; the input reads as it did. -/
def chunkBackSpec : ChangeSpec := { name := "chunkBack", fn := fun _ => fun
  | [d1, d2] => { results := [.lit (.bool true)], args := [d1, d2] }
  | _ => none }
def chunkBackRow : OpenClaim := { program := "ytjbadcfhhcmnoaa", sum := "b4b8ead5b54c173edf208ed6dc616402fa1880e1ccf5f5539ee819102363b3a4", func := "abutment/abutmentlaw14.ChunkBack", spec := "chunkBack", unfollowed := true, recurses := true, apart := false }
def ChunkBackSaid : Prop := chunkBackRow.holds Try.pinned (OpenSpec.ofChange chunkBackSpec)

/-- ITS FALSE NEIGHBOUR: 'it returns false'. Refute it at one input. -/
def chunkBackWrong : ChangeSpec := { name := "chunkBack", fn := fun _ => fun
  | [d1, d2] => { results := [.lit (.bool false)], args := [d1, d2] }
  | _ => none }
def ChunkBackWrongFalsely : Prop := chunkBackRow.holds Try.pinned (OpenSpec.ofChange chunkBackWrong)

/- THE SECOND FORM. 'bulk': how many values and letters a reading holds, each counted each time it is reached (what is shared counts as often as it is met; a slice's spare places count too). A statement '..UptoSaid' is the law's where the arguments, and the package variables that the reading takes, are together of bulk at most 1048576: NARROWER than '..Said'. Prove '..Said' where nothing that the law and all that it calls make is longer than what came in: it says more and counts as full. Else prove '..UptoSaid'. A law counts once. -/
mutual
def uptoBulk {H : Type} : DataW H → Nat
  | .lit (.string bytes) => bytes.length + 1
  | .lit _ => 1
  | .nil => 1
  | .ptr d => uptoBulk d + 1
  | .slice elems spare => uptoBulkAll elems + uptoBulkAll spare + 1
  | .agg parts => uptoBulkAll parts + 1
  | .iface _ d => uptoBulk d + 1
  | .map entries => uptoBulkEntries entries + 1
  | .held _ => 1
def uptoBulkAll {H : Type} : List (DataW H) → Nat
  | [] => 0
  | d :: r => uptoBulk d + uptoBulkAll r
def uptoBulkEntries {H : Type} : List (Lit × DataW H) → Nat
  | [] => 0
  | x :: r => uptoBulkEntry x + uptoBulkEntries r
def uptoBulkEntry {H : Type} : Lit × DataW H → Nat
  | (.string bytes, d) => bytes.length + uptoBulk d + 1
  | (_, d) => uptoBulk d + 1
 end
def uptoSmall : (H : Type) → List (DataW H) → Bool := fun _ ds => decide (uptoBulkAll ds ≤ 1048576)
def OpenSpec.upto (s : _root_.Go.ChangeSpec) : _root_.Go.OpenSpec := { _root_.Go.OpenSpec.ofChange s with cond := some uptoSmall }

/-- 'abutmentlaw04.CursorPlays', WHERE WHAT IT READS IS OF BULK AT MOST 1048576: true; the input reads as it did. -/
def cursorPlaysUptoRow : OpenClaim := { program := "ytjbadcfhhcmnoaa", sum := "b4b8ead5b54c173edf208ed6dc616402fa1880e1ccf5f5539ee819102363b3a4", func := "abutment/abutmentlaw04.CursorPlays", spec := "cursorPlays", unfollowed := true, recurses := true, apart := false, narrowed := true }
def CursorPlaysUptoSaid : Prop := cursorPlaysUptoRow.holds Try.pinned (OpenSpec.upto cursorPlaysSpec)

/-- 'abutmentlaw04.CursorQuotes', WHERE WHAT IT READS IS OF BULK AT MOST 1048576: true; the input reads as it did. -/
def cursorQuotesUptoRow : OpenClaim := { program := "ytjbadcfhhcmnoaa", sum := "b4b8ead5b54c173edf208ed6dc616402fa1880e1ccf5f5539ee819102363b3a4", func := "abutment/abutmentlaw04.CursorQuotes", spec := "cursorQuotes", unfollowed := true, recurses := true, apart := false, narrowed := true }
def CursorQuotesUptoSaid : Prop := cursorQuotesUptoRow.holds Try.pinned (OpenSpec.upto cursorQuotesSpec)

/-- 'abutmentlaw04.CursorBack', WHERE WHAT IT READS IS OF BULK AT MOST 1048576: true; the input reads as it did. -/
def cursorBackUptoRow : OpenClaim := { program := "ytjbadcfhhcmnoaa", sum := "b4b8ead5b54c173edf208ed6dc616402fa1880e1ccf5f5539ee819102363b3a4", func := "abutment/abutmentlaw04.CursorBack", spec := "cursorBack", unfollowed := true, recurses := true, apart := false, narrowed := true }
def CursorBackUptoSaid : Prop := cursorBackUptoRow.holds Try.pinned (OpenSpec.upto cursorBackSpec)

/-- 'abutmentlaw08.ParamsParse', WHERE WHAT IT READS IS OF BULK AT MOST 1048576: true; the input reads as it did. -/
def paramsParseUptoRow : OpenClaim := { program := "ytjbadcfhhcmnoaa", sum := "b4b8ead5b54c173edf208ed6dc616402fa1880e1ccf5f5539ee819102363b3a4", func := "abutment/abutmentlaw08.ParamsParse", spec := "paramsParse", unfollowed := true, recurses := true, apart := false, narrowed := true }
def ParamsParseUptoSaid : Prop := paramsParseUptoRow.holds Try.pinned (OpenSpec.upto paramsParseSpec)

/-- 'abutmentlaw08.ParamsPrint', WHERE WHAT IT READS IS OF BULK AT MOST 1048576: true; the input reads as it did. -/
def paramsPrintUptoRow : OpenClaim := { program := "ytjbadcfhhcmnoaa", sum := "b4b8ead5b54c173edf208ed6dc616402fa1880e1ccf5f5539ee819102363b3a4", func := "abutment/abutmentlaw08.ParamsPrint", spec := "paramsPrint", unfollowed := true, recurses := true, apart := false, narrowed := true }
def ParamsPrintUptoSaid : Prop := paramsPrintUptoRow.holds Try.pinned (OpenSpec.upto paramsPrintSpec)

/-- 'abutmentlaw08.ParamsBack', WHERE WHAT IT READS IS OF BULK AT MOST 1048576: true; the input reads as it did. -/
def paramsBackUptoRow : OpenClaim := { program := "ytjbadcfhhcmnoaa", sum := "b4b8ead5b54c173edf208ed6dc616402fa1880e1ccf5f5539ee819102363b3a4", func := "abutment/abutmentlaw08.ParamsBack", spec := "paramsBack", unfollowed := true, recurses := true, apart := false, narrowed := true }
def ParamsBackUptoSaid : Prop := paramsBackUptoRow.holds Try.pinned (OpenSpec.upto paramsBackSpec)

/-- 'abutmentlaw11.HostParses', WHERE WHAT IT READS IS OF BULK AT MOST 1048576: true; the input reads as it did. -/
def hostParsesUptoRow : OpenClaim := { program := "ytjbadcfhhcmnoaa", sum := "b4b8ead5b54c173edf208ed6dc616402fa1880e1ccf5f5539ee819102363b3a4", func := "abutment/abutmentlaw11.HostParses", spec := "hostParses", inPlace := ["internal/bytealg.IndexByteString", "internal/bytealg.IndexString"], unfollowed := true, recurses := true, named := ["internal/bytealg.MaxLen"], apart := false, narrowed := true }
def HostParsesUptoSaid : Prop := hostParsesUptoRow.holds Try.pinned (OpenSpec.upto hostParsesSpec)

/-- 'abutmentlaw11.HostText', WHERE WHAT IT READS IS OF BULK AT MOST 1048576: true; the input reads as it did. -/
def hostTextUptoRow : OpenClaim := { program := "ytjbadcfhhcmnoaa", sum := "b4b8ead5b54c173edf208ed6dc616402fa1880e1ccf5f5539ee819102363b3a4", func := "abutment/abutmentlaw11.HostText", spec := "hostText", inPlace := ["internal/bytealg.IndexByteString", "internal/bytealg.IndexString"], unfollowed := true, recurses := true, named := ["internal/bytealg.MaxLen"], apart := false, narrowed := true }
def HostTextUptoSaid : Prop := hostTextUptoRow.holds Try.pinned (OpenSpec.upto hostTextSpec)

/-- 'abutmentlaw11.HostBack', WHERE WHAT IT READS IS OF BULK AT MOST 1048576: true; the input reads as it did. -/
def hostBackUptoRow : OpenClaim := { program := "ytjbadcfhhcmnoaa", sum := "b4b8ead5b54c173edf208ed6dc616402fa1880e1ccf5f5539ee819102363b3a4", func := "abutment/abutmentlaw11.HostBack", spec := "hostBack", inPlace := ["internal/bytealg.IndexByteString", "internal/bytealg.IndexString"], unfollowed := true, recurses := true, named := ["internal/bytealg.MaxLen"], apart := false, narrowed := true }
def HostBackUptoSaid : Prop := hostBackUptoRow.holds Try.pinned (OpenSpec.upto hostBackSpec)

/-- 'abutmentlaw14.ChunkParses', WHERE WHAT IT READS IS OF BULK AT MOST 1048576: true; the input reads as it did. -/
def chunkParsesUptoRow : OpenClaim := { program := "ytjbadcfhhcmnoaa", sum := "b4b8ead5b54c173edf208ed6dc616402fa1880e1ccf5f5539ee819102363b3a4", func := "abutment/abutmentlaw14.ChunkParses", spec := "chunkParses", unfollowed := true, recurses := true, apart := false, narrowed := true }
def ChunkParsesUptoSaid : Prop := chunkParsesUptoRow.holds Try.pinned (OpenSpec.upto chunkParsesSpec)

/-- 'abutmentlaw14.ChunkSizes', WHERE WHAT IT READS IS OF BULK AT MOST 1048576: true; the input reads as it did. -/
def chunkSizesUptoRow : OpenClaim := { program := "ytjbadcfhhcmnoaa", sum := "b4b8ead5b54c173edf208ed6dc616402fa1880e1ccf5f5539ee819102363b3a4", func := "abutment/abutmentlaw14.ChunkSizes", spec := "chunkSizes", unfollowed := true, recurses := true, apart := false, narrowed := true }
def ChunkSizesUptoSaid : Prop := chunkSizesUptoRow.holds Try.pinned (OpenSpec.upto chunkSizesSpec)

/-- 'abutmentlaw14.ChunkBack', WHERE WHAT IT READS IS OF BULK AT MOST 1048576: true; the input reads as it did. -/
def chunkBackUptoRow : OpenClaim := { program := "ytjbadcfhhcmnoaa", sum := "b4b8ead5b54c173edf208ed6dc616402fa1880e1ccf5f5539ee819102363b3a4", func := "abutment/abutmentlaw14.ChunkBack", spec := "chunkBack", unfollowed := true, recurses := true, apart := false, narrowed := true }
def ChunkBackUptoSaid : Prop := chunkBackUptoRow.holds Try.pinned (OpenSpec.upto chunkBackSpec)

end Rows
end Go.Proofs.Ytjbadcfhhcmnoaa
