/-
  DERIVED. GIVEN WITH THE SEED: THE CARDS: each row of YtkfpioadimkogaaDoorRows.lean that lists a variable, with what it lists TIED to the program's text (the seventh form; the later family's looks); each row that meets fmt, with fmt's text TOLD by the authors' own Lean function (tested against real Go, not proved from fmt's source: count such statements apart). THE CARD IS WHAT COUNTS. Prove the row's statement (the work); the ties are given (YtkfpioadimkogaaDoorTie.lean); close each card by the builder's one call (the guide's Derived/Test/ToyasCard.lean, 'card_holds'). Laid BY PROGRAM, IN A SANDBOX (cutbox-door.mjs). By AI agents, Wed Nov 11 2026. No macro, syntax, notation, axiom, sorry.
-/
import Derived.Test.YtkfpioadimkogaaDoorRows
import GoSem.ClaimSeven
namespace Go.Proofs.YtkfpioadimkogaaDoor
namespace Rows

/-- THE TIED CARD OF 'abutmentlaw20.ViaBack'. -/
def viaBackCard : Claim7 := { stood := { row := viaBackRow, standIns := [], harness := (true, "fb9e62982e561179688bed5b814c1b9a34406893f5ae9dc1ccc91f7fd2f009c1"), looks := false }, kinds := [], alts := [], laidByText := true, laidKinds := [.data, .pinned], laidTests := true, laidLooks := .later }
def ViaBackCardSaid : Prop := Claim7.holds Tryd.pinned (.plain (OpenSpec.ofChange viaBackSpec)) viaBackCard

/-- THE TIED CARD OF 'abutmentlaw18.LengthOf'. -/
def lengthOfCard : Claim7 := { stood := { row := lengthOfRow, standIns := [], harness := (true, "fb9e62982e561179688bed5b814c1b9a34406893f5ae9dc1ccc91f7fd2f009c1"), looks := false }, kinds := [], alts := [], laidByText := true, laidKinds := [.data, .pinned], laidTests := true, laidLooks := .later }
def LengthOfCardSaid : Prop := Claim7.holds Tryd.pinned (.plain (OpenSpec.ofChange lengthOfSpec)) lengthOfCard

/-- THE TIED CARD OF 'abutmentlaw18.LengthSet'. -/
def lengthSetCard : Claim7 := { stood := { row := lengthSetRow, standIns := [], harness := (true, "fb9e62982e561179688bed5b814c1b9a34406893f5ae9dc1ccc91f7fd2f009c1"), looks := false }, kinds := [], alts := [], laidByText := true, laidKinds := [.data, .pinned], laidTests := true, laidLooks := .later }
def LengthSetCardSaid : Prop := Claim7.holds Tryd.pinned (.plain (OpenSpec.ofChange lengthSetSpec)) lengthSetCard

/-- THE TIED CARD OF 'abutmentlaw09.FieldUnfolds'. -/
def fieldUnfoldsCard : Claim7 := { stood := { row := fieldUnfoldsRow, standIns := [], harness := (true, "fb9e62982e561179688bed5b814c1b9a34406893f5ae9dc1ccc91f7fd2f009c1"), looks := false }, kinds := [], alts := [], laidByText := true, laidKinds := [.data, .pinned], laidTests := true, laidLooks := .later }
def FieldUnfoldsCardSaid : Prop := Claim7.holds Tryd.pinned (.plain (OpenSpec.ofChange fieldUnfoldsSpec)) fieldUnfoldsCard

/-- THE TIED CARD OF 'abutmentlaw09.FieldBack'. -/
def fieldBackCard : Claim7 := { stood := { row := fieldBackRow, standIns := [], harness := (true, "fb9e62982e561179688bed5b814c1b9a34406893f5ae9dc1ccc91f7fd2f009c1"), looks := false }, kinds := [], alts := [], laidByText := true, laidKinds := [.data, .pinned], laidTests := true, laidLooks := .later }
def FieldBackCardSaid : Prop := Claim7.holds Tryd.pinned (.plain (OpenSpec.ofChange fieldBackSpec)) fieldBackCard

/-- THE SECOND FORM's CARD OF 'abutmentlaw20.ViaBack'. -/
def viaBackUptoCard : Claim7 := { stood := { row := viaBackUptoRow, standIns := [], harness := (true, "fb9e62982e561179688bed5b814c1b9a34406893f5ae9dc1ccc91f7fd2f009c1"), looks := false }, kinds := [], alts := [], laidByText := true, laidKinds := [.data, .pinned], laidTests := true, laidLooks := .later }
def ViaBackUptoCardSaid : Prop := Claim7.holds Tryd.pinned (.plain (OpenSpec.upto viaBackSpec)) viaBackUptoCard

/-- THE SECOND FORM's CARD OF 'abutmentlaw18.LengthOf'. -/
def lengthOfUptoCard : Claim7 := { stood := { row := lengthOfUptoRow, standIns := [], harness := (true, "fb9e62982e561179688bed5b814c1b9a34406893f5ae9dc1ccc91f7fd2f009c1"), looks := false }, kinds := [], alts := [], laidByText := true, laidKinds := [.data, .pinned], laidTests := true, laidLooks := .later }
def LengthOfUptoCardSaid : Prop := Claim7.holds Tryd.pinned (.plain (OpenSpec.upto lengthOfSpec)) lengthOfUptoCard

/-- THE SECOND FORM's CARD OF 'abutmentlaw18.LengthSet'. -/
def lengthSetUptoCard : Claim7 := { stood := { row := lengthSetUptoRow, standIns := [], harness := (true, "fb9e62982e561179688bed5b814c1b9a34406893f5ae9dc1ccc91f7fd2f009c1"), looks := false }, kinds := [], alts := [], laidByText := true, laidKinds := [.data, .pinned], laidTests := true, laidLooks := .later }
def LengthSetUptoCardSaid : Prop := Claim7.holds Tryd.pinned (.plain (OpenSpec.upto lengthSetSpec)) lengthSetUptoCard

/-- THE SECOND FORM's CARD OF 'abutmentlaw09.FieldUnfolds'. -/
def fieldUnfoldsUptoCard : Claim7 := { stood := { row := fieldUnfoldsUptoRow, standIns := [], harness := (true, "fb9e62982e561179688bed5b814c1b9a34406893f5ae9dc1ccc91f7fd2f009c1"), looks := false }, kinds := [], alts := [], laidByText := true, laidKinds := [.data, .pinned], laidTests := true, laidLooks := .later }
def FieldUnfoldsUptoCardSaid : Prop := Claim7.holds Tryd.pinned (.plain (OpenSpec.upto fieldUnfoldsSpec)) fieldUnfoldsUptoCard

/-- THE SECOND FORM's CARD OF 'abutmentlaw09.FieldBack'. -/
def fieldBackUptoCard : Claim7 := { stood := { row := fieldBackUptoRow, standIns := [], harness := (true, "fb9e62982e561179688bed5b814c1b9a34406893f5ae9dc1ccc91f7fd2f009c1"), looks := false }, kinds := [], alts := [], laidByText := true, laidKinds := [.data, .pinned], laidTests := true, laidLooks := .later }
def FieldBackUptoCardSaid : Prop := Claim7.holds Tryd.pinned (.plain (OpenSpec.upto fieldBackSpec)) fieldBackUptoCard
end Rows
end Go.Proofs.YtkfpioadimkogaaDoor
