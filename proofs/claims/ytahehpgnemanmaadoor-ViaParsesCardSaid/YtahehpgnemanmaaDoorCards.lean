/-
  DERIVED. GIVEN WITH THE SEED: THE CARDS: each row of YtahehpgnemanmaaDoorRows.lean that lists a variable, with what it lists TIED to the program's text (the seventh form; the later family's looks); each row that meets fmt, with fmt's text TOLD by the authors' own Lean function (tested against real Go, not proved from fmt's source: count such statements apart). THE CARD IS WHAT COUNTS. Prove the row's statement (the work); the ties are given (YtahehpgnemanmaaDoorTie.lean); close each card by the builder's one call (the guide's Derived/Test/ToyasCard.lean, 'card_holds'). Laid BY PROGRAM, IN A SANDBOX (cutbox-door.mjs). By AI agents, Wed Nov 11 2026. No macro, syntax, notation, axiom, sorry.
-/
import Derived.Test.YtahehpgnemanmaaDoorRows
import GoSem.ClaimSeven
namespace Go.Proofs.YtahehpgnemanmaaDoor
namespace Rows

/-- THE TIED CARD OF 'abutmentlaw12.TargetParses'. -/
def targetParsesCard : Claim7 := { stood := { row := targetParsesRow, standIns := [], harness := (true, "1a3091b19f36339984d324896ca043bb1a38a7ed7ea4e758aeec47e19f26b00b"), looks := false }, kinds := [], alts := [], laidByText := true, laidKinds := [.data, .pinned], laidTests := true, laidLooks := .later }
def TargetParsesCardSaid : Prop := Claim7.holds Tryd.pinned (.plain (OpenSpec.ofChange targetParsesSpec)) targetParsesCard

/-- THE TIED CARD OF 'abutmentlaw12.TargetOut'. -/
def targetOutCard : Claim7 := { stood := { row := targetOutRow, standIns := [], harness := (true, "1a3091b19f36339984d324896ca043bb1a38a7ed7ea4e758aeec47e19f26b00b"), looks := false }, kinds := [], alts := [], laidByText := true, laidKinds := [.data, .pinned], laidTests := true, laidLooks := .later }
def TargetOutCardSaid : Prop := Claim7.holds Tryd.pinned (.plain (OpenSpec.ofChange targetOutSpec)) targetOutCard

/-- THE TIED CARD OF 'abutmentlaw12.TargetBack'. -/
def targetBackCard : Claim7 := { stood := { row := targetBackRow, standIns := [], harness := (true, "1a3091b19f36339984d324896ca043bb1a38a7ed7ea4e758aeec47e19f26b00b"), looks := false }, kinds := [], alts := [], laidByText := true, laidKinds := [.data, .pinned], laidTests := true, laidLooks := .later }
def TargetBackCardSaid : Prop := Claim7.holds Tryd.pinned (.plain (OpenSpec.ofChange targetBackSpec)) targetBackCard

/-- THE TIED CARD OF 'abutmentlaw20.ViaParses'. -/
def viaParsesCard : Claim7 := { stood := { row := viaParsesRow, standIns := [], harness := (true, "1a3091b19f36339984d324896ca043bb1a38a7ed7ea4e758aeec47e19f26b00b"), looks := false }, kinds := [], alts := [], laidByText := true, laidKinds := [.data, .pinned], laidTests := true, laidLooks := .later }
def ViaParsesCardSaid : Prop := Claim7.holds Tryd.pinned (.plain (OpenSpec.ofChange viaParsesSpec)) viaParsesCard

/-- THE TIED CARD OF 'abutmentlaw20.ViaBack'. -/
def viaBackCard : Claim7 := { stood := { row := viaBackRow, standIns := [], harness := (true, "1a3091b19f36339984d324896ca043bb1a38a7ed7ea4e758aeec47e19f26b00b"), looks := false }, kinds := [], alts := [], laidByText := true, laidKinds := [.data, .pinned], laidTests := true, laidLooks := .later }
def ViaBackCardSaid : Prop := Claim7.holds Tryd.pinned (.plain (OpenSpec.ofChange viaBackSpec)) viaBackCard

/-- THE SECOND FORM's CARD OF 'abutmentlaw12.TargetParses'. -/
def targetParsesUptoCard : Claim7 := { stood := { row := targetParsesUptoRow, standIns := [], harness := (true, "1a3091b19f36339984d324896ca043bb1a38a7ed7ea4e758aeec47e19f26b00b"), looks := false }, kinds := [], alts := [], laidByText := true, laidKinds := [.data, .pinned], laidTests := true, laidLooks := .later }
def TargetParsesUptoCardSaid : Prop := Claim7.holds Tryd.pinned (.plain (OpenSpec.upto targetParsesSpec)) targetParsesUptoCard

/-- THE SECOND FORM's CARD OF 'abutmentlaw12.TargetOut'. -/
def targetOutUptoCard : Claim7 := { stood := { row := targetOutUptoRow, standIns := [], harness := (true, "1a3091b19f36339984d324896ca043bb1a38a7ed7ea4e758aeec47e19f26b00b"), looks := false }, kinds := [], alts := [], laidByText := true, laidKinds := [.data, .pinned], laidTests := true, laidLooks := .later }
def TargetOutUptoCardSaid : Prop := Claim7.holds Tryd.pinned (.plain (OpenSpec.upto targetOutSpec)) targetOutUptoCard

/-- THE SECOND FORM's CARD OF 'abutmentlaw12.TargetBack'. -/
def targetBackUptoCard : Claim7 := { stood := { row := targetBackUptoRow, standIns := [], harness := (true, "1a3091b19f36339984d324896ca043bb1a38a7ed7ea4e758aeec47e19f26b00b"), looks := false }, kinds := [], alts := [], laidByText := true, laidKinds := [.data, .pinned], laidTests := true, laidLooks := .later }
def TargetBackUptoCardSaid : Prop := Claim7.holds Tryd.pinned (.plain (OpenSpec.upto targetBackSpec)) targetBackUptoCard

/-- THE SECOND FORM's CARD OF 'abutmentlaw20.ViaParses'. -/
def viaParsesUptoCard : Claim7 := { stood := { row := viaParsesUptoRow, standIns := [], harness := (true, "1a3091b19f36339984d324896ca043bb1a38a7ed7ea4e758aeec47e19f26b00b"), looks := false }, kinds := [], alts := [], laidByText := true, laidKinds := [.data, .pinned], laidTests := true, laidLooks := .later }
def ViaParsesUptoCardSaid : Prop := Claim7.holds Tryd.pinned (.plain (OpenSpec.upto viaParsesSpec)) viaParsesUptoCard

/-- THE SECOND FORM's CARD OF 'abutmentlaw20.ViaBack'. -/
def viaBackUptoCard : Claim7 := { stood := { row := viaBackUptoRow, standIns := [], harness := (true, "1a3091b19f36339984d324896ca043bb1a38a7ed7ea4e758aeec47e19f26b00b"), looks := false }, kinds := [], alts := [], laidByText := true, laidKinds := [.data, .pinned], laidTests := true, laidLooks := .later }
def ViaBackUptoCardSaid : Prop := Claim7.holds Tryd.pinned (.plain (OpenSpec.upto viaBackSpec)) viaBackUptoCard
end Rows
end Go.Proofs.YtahehpgnemanmaaDoor
