/-
  DERIVED. GIVEN WITH THE SEED: THE CARDS: each row of YtkfpioadimkogaaGreatDoorRows.lean that lists a variable, with what it lists TIED to the program's text (the seventh form; the later family's looks); each row that meets fmt, with fmt's text TOLD by the authors' own Lean function (tested against real Go, not proved from fmt's source: count such statements apart). THE CARD IS WHAT COUNTS. Prove the row's statement (the work); the ties are given (YtkfpioadimkogaaGreatDoorTie.lean); close each card by the builder's one call (the guide's Derived/Test/ToyasCard.lean, 'card_holds'). Laid BY PROGRAM, IN A SANDBOX (cutbox-door.mjs). By AI agents, Wed Nov 11 2026. No macro, syntax, notation, axiom, sorry.
-/
import Derived.Test.YtkfpioadimkogaaGreatDoorRows
import GoSem.ClaimSeven
namespace Go.Proofs.YtkfpioadimkogaaGreatDoor
namespace Rows

/-- THE TIED CARD OF 'abutmentlaw20.ViaLoops'. -/
def viaLoopsCard : Claim7 := { stood := { row := viaLoopsRow, standIns := [], harness := (true, "af13b40aa2cee87f68690c3c4a91befcb5736168cbb80cc00289dcbde9f6c0ca"), looks := false }, kinds := [], alts := [], laidByText := true, laidKinds := [.data, .pinned], laidTests := true, laidLooks := .later }
def ViaLoopsCardSaid : Prop := Claim7.holds Tryz.pinned (.plain (OpenSpec.ofChange viaLoopsSpec)) viaLoopsCard

/-- THE TIED CARD OF 'abutmentlaw22.HeadPrints'. -/
def headPrintsCard : Claim7 := { stood := { row := headPrintsRow, standIns := [], harness := (true, "af13b40aa2cee87f68690c3c4a91befcb5736168cbb80cc00289dcbde9f6c0ca"), looks := false }, kinds := [], alts := [], laidByText := true, laidKinds := [.data, .pinned], laidTests := true, laidLooks := .later }
def HeadPrintsCardSaid : Prop := Claim7.holds Tryz.pinned (.plain (OpenSpec.ofChange headPrintsSpec)) headPrintsCard

/-- THE TIED CARD OF 'abutmentlaw23.FramingRequests'. -/
def framingRequestsCard : Claim7 := { stood := { row := framingRequestsRow, standIns := [], harness := (true, "af13b40aa2cee87f68690c3c4a91befcb5736168cbb80cc00289dcbde9f6c0ca"), looks := false }, kinds := [], alts := [], laidByText := true, laidKinds := [.data, .pinned], laidTests := true, laidLooks := .later }
def FramingRequestsCardSaid : Prop := Claim7.holds Tryz.pinned (.plain (OpenSpec.ofChange framingRequestsSpec)) framingRequestsCard

/-- THE TIED CARD OF 'abutmentlaw23.FramingResponses'. -/
def framingResponsesCard : Claim7 := { stood := { row := framingResponsesRow, standIns := [], harness := (true, "af13b40aa2cee87f68690c3c4a91befcb5736168cbb80cc00289dcbde9f6c0ca"), looks := false }, kinds := [], alts := [], laidByText := true, laidKinds := [.data, .pinned], laidTests := true, laidLooks := .later }
def FramingResponsesCardSaid : Prop := Claim7.holds Tryz.pinned (.plain (OpenSpec.ofChange framingResponsesSpec)) framingResponsesCard

/-- THE TIED CARD OF 'abutmentlaw23.FramingOne'. -/
def framingOneCard : Claim7 := { stood := { row := framingOneRow, standIns := [], harness := (true, "af13b40aa2cee87f68690c3c4a91befcb5736168cbb80cc00289dcbde9f6c0ca"), looks := false }, kinds := [], alts := [], laidByText := true, laidKinds := [.data, .pinned], laidTests := true, laidLooks := .later }
def FramingOneCardSaid : Prop := Claim7.holds Tryz.pinned (.plain (OpenSpec.ofChange framingOneSpec)) framingOneCard

/-- THE SECOND FORM's CARD OF 'abutmentlaw20.ViaLoops'. -/
def viaLoopsUptoCard : Claim7 := { stood := { row := viaLoopsUptoRow, standIns := [], harness := (true, "af13b40aa2cee87f68690c3c4a91befcb5736168cbb80cc00289dcbde9f6c0ca"), looks := false }, kinds := [], alts := [], laidByText := true, laidKinds := [.data, .pinned], laidTests := true, laidLooks := .later }
def ViaLoopsUptoCardSaid : Prop := Claim7.holds Tryz.pinned (.plain (OpenSpec.upto viaLoopsSpec)) viaLoopsUptoCard

/-- THE SECOND FORM's CARD OF 'abutmentlaw22.HeadPrints'. -/
def headPrintsUptoCard : Claim7 := { stood := { row := headPrintsUptoRow, standIns := [], harness := (true, "af13b40aa2cee87f68690c3c4a91befcb5736168cbb80cc00289dcbde9f6c0ca"), looks := false }, kinds := [], alts := [], laidByText := true, laidKinds := [.data, .pinned], laidTests := true, laidLooks := .later }
def HeadPrintsUptoCardSaid : Prop := Claim7.holds Tryz.pinned (.plain (OpenSpec.upto headPrintsSpec)) headPrintsUptoCard

/-- THE SECOND FORM's CARD OF 'abutmentlaw23.FramingRequests'. -/
def framingRequestsUptoCard : Claim7 := { stood := { row := framingRequestsUptoRow, standIns := [], harness := (true, "af13b40aa2cee87f68690c3c4a91befcb5736168cbb80cc00289dcbde9f6c0ca"), looks := false }, kinds := [], alts := [], laidByText := true, laidKinds := [.data, .pinned], laidTests := true, laidLooks := .later }
def FramingRequestsUptoCardSaid : Prop := Claim7.holds Tryz.pinned (.plain (OpenSpec.upto framingRequestsSpec)) framingRequestsUptoCard

/-- THE SECOND FORM's CARD OF 'abutmentlaw23.FramingResponses'. -/
def framingResponsesUptoCard : Claim7 := { stood := { row := framingResponsesUptoRow, standIns := [], harness := (true, "af13b40aa2cee87f68690c3c4a91befcb5736168cbb80cc00289dcbde9f6c0ca"), looks := false }, kinds := [], alts := [], laidByText := true, laidKinds := [.data, .pinned], laidTests := true, laidLooks := .later }
def FramingResponsesUptoCardSaid : Prop := Claim7.holds Tryz.pinned (.plain (OpenSpec.upto framingResponsesSpec)) framingResponsesUptoCard

/-- THE SECOND FORM's CARD OF 'abutmentlaw23.FramingOne'. -/
def framingOneUptoCard : Claim7 := { stood := { row := framingOneUptoRow, standIns := [], harness := (true, "af13b40aa2cee87f68690c3c4a91befcb5736168cbb80cc00289dcbde9f6c0ca"), looks := false }, kinds := [], alts := [], laidByText := true, laidKinds := [.data, .pinned], laidTests := true, laidLooks := .later }
def FramingOneUptoCardSaid : Prop := Claim7.holds Tryz.pinned (.plain (OpenSpec.upto framingOneSpec)) framingOneUptoCard
end Rows
end Go.Proofs.YtkfpioadimkogaaGreatDoor
