/-
  DERIVED. GIVEN WITH THE SEED: THE CARDS: each row of YtefojbfihnnpdaaDoorRows.lean that lists a variable, with what it lists TIED to the program's text (the seventh form; the later family's looks); each row that meets fmt, with fmt's text TOLD by the authors' own Lean function (tested against real Go, not proved from fmt's source: count such statements apart). THE CARD IS WHAT COUNTS. Prove the row's statement (the work); the ties are given (YtefojbfihnnpdaaDoorTie.lean); close each card by the builder's one call (the guide's Derived/Test/ToyasCard.lean, 'card_holds'). Laid BY PROGRAM, IN A SANDBOX (cutbox-door.mjs). By AI agents, Wed Nov 11 2026. No macro, syntax, notation, axiom, sorry.
-/
import Derived.Test.YtefojbfihnnpdaaDoorRows
import GoSem.ClaimSeven
namespace Go.Proofs.YtefojbfihnnpdaaDoor
namespace Rows

/-- THE TIED CARD OF 'starlinglaw.CatalogTells'. -/
def catalogTellsCard : Claim7 := { stood := { row := catalogTellsRow, standIns := [], harness := (true, "8d2211ed6a6007b92743360380d9896df7fc12362be6d37a3ec93f2599f819d1"), looks := false }, kinds := [], alts := [], laidByText := true, laidKinds := [.data, .data, .data, .data], laidTests := true, laidLooks := .later }
def CatalogTellsCardSaid : Prop := Claim7.holds Tryd.pinned (.plain (OpenSpec.ofChange catalogTellsSpec)) catalogTellsCard

/-- THE TIED CARD OF 'starlinglaw.CatalogBack'. -/
def catalogBackCard : Claim7 := { stood := { row := catalogBackRow, standIns := [], harness := (true, "8d2211ed6a6007b92743360380d9896df7fc12362be6d37a3ec93f2599f819d1"), looks := false }, kinds := [], alts := [], laidByText := true, laidKinds := [.data, .data, .data, .data], laidTests := true, laidLooks := .later }
def CatalogBackCardSaid : Prop := Claim7.holds Tryd.pinned (.plain (OpenSpec.ofChange catalogBackSpec)) catalogBackCard

/-- THE TIED CARD OF 'starlinglaw.CatalogOnly'. -/
def catalogOnlyCard : Claim7 := { stood := { row := catalogOnlyRow, standIns := [], harness := (true, "8d2211ed6a6007b92743360380d9896df7fc12362be6d37a3ec93f2599f819d1"), looks := false }, kinds := [], alts := [], laidByText := true, laidKinds := [.data, .data, .data, .data], laidTests := true, laidLooks := .later }
def CatalogOnlyCardSaid : Prop := Claim7.holds Tryd.pinned (.plain (OpenSpec.ofChange catalogOnlySpec)) catalogOnlyCard

/-- THE TIED CARD OF 'starlinglaw.FitsTells'. -/
def fitsTellsCard : Claim7 := { stood := { row := fitsTellsRow, standIns := [], harness := (true, "8d2211ed6a6007b92743360380d9896df7fc12362be6d37a3ec93f2599f819d1"), looks := false }, kinds := [], alts := [], laidByText := true, laidKinds := [.data, .data, .data, .data], laidTests := true, laidLooks := .later }
def FitsTellsCardSaid : Prop := Claim7.holds Tryd.pinned (.plain (OpenSpec.ofChange fitsTellsSpec)) fitsTellsCard

/-- THE TIED CARD OF 'starlinglaw.FitsLoose'. -/
def fitsLooseCard : Claim7 := { stood := { row := fitsLooseRow, standIns := [], harness := (true, "8d2211ed6a6007b92743360380d9896df7fc12362be6d37a3ec93f2599f819d1"), looks := false }, kinds := [], alts := [], laidByText := true, laidKinds := [.data, .data, .data, .data], laidTests := true, laidLooks := .later }
def FitsLooseCardSaid : Prop := Claim7.holds Tryd.pinned (.plain (OpenSpec.ofChange fitsLooseSpec)) fitsLooseCard

/-- THE SECOND FORM's CARD OF 'starlinglaw.CatalogTells'. -/
def catalogTellsUptoCard : Claim7 := { stood := { row := catalogTellsUptoRow, standIns := [], harness := (true, "8d2211ed6a6007b92743360380d9896df7fc12362be6d37a3ec93f2599f819d1"), looks := false }, kinds := [], alts := [], laidByText := true, laidKinds := [.data, .data, .data, .data], laidTests := true, laidLooks := .later }
def CatalogTellsUptoCardSaid : Prop := Claim7.holds Tryd.pinned (.plain (OpenSpec.upto catalogTellsSpec)) catalogTellsUptoCard

/-- THE SECOND FORM's CARD OF 'starlinglaw.CatalogBack'. -/
def catalogBackUptoCard : Claim7 := { stood := { row := catalogBackUptoRow, standIns := [], harness := (true, "8d2211ed6a6007b92743360380d9896df7fc12362be6d37a3ec93f2599f819d1"), looks := false }, kinds := [], alts := [], laidByText := true, laidKinds := [.data, .data, .data, .data], laidTests := true, laidLooks := .later }
def CatalogBackUptoCardSaid : Prop := Claim7.holds Tryd.pinned (.plain (OpenSpec.upto catalogBackSpec)) catalogBackUptoCard

/-- THE SECOND FORM's CARD OF 'starlinglaw.CatalogOnly'. -/
def catalogOnlyUptoCard : Claim7 := { stood := { row := catalogOnlyUptoRow, standIns := [], harness := (true, "8d2211ed6a6007b92743360380d9896df7fc12362be6d37a3ec93f2599f819d1"), looks := false }, kinds := [], alts := [], laidByText := true, laidKinds := [.data, .data, .data, .data], laidTests := true, laidLooks := .later }
def CatalogOnlyUptoCardSaid : Prop := Claim7.holds Tryd.pinned (.plain (OpenSpec.upto catalogOnlySpec)) catalogOnlyUptoCard

/-- THE SECOND FORM's CARD OF 'starlinglaw.FitsTells'. -/
def fitsTellsUptoCard : Claim7 := { stood := { row := fitsTellsUptoRow, standIns := [], harness := (true, "8d2211ed6a6007b92743360380d9896df7fc12362be6d37a3ec93f2599f819d1"), looks := false }, kinds := [], alts := [], laidByText := true, laidKinds := [.data, .data, .data, .data], laidTests := true, laidLooks := .later }
def FitsTellsUptoCardSaid : Prop := Claim7.holds Tryd.pinned (.plain (OpenSpec.upto fitsTellsSpec)) fitsTellsUptoCard

/-- THE SECOND FORM's CARD OF 'starlinglaw.FitsLoose'. -/
def fitsLooseUptoCard : Claim7 := { stood := { row := fitsLooseUptoRow, standIns := [], harness := (true, "8d2211ed6a6007b92743360380d9896df7fc12362be6d37a3ec93f2599f819d1"), looks := false }, kinds := [], alts := [], laidByText := true, laidKinds := [.data, .data, .data, .data], laidTests := true, laidLooks := .later }
def FitsLooseUptoCardSaid : Prop := Claim7.holds Tryd.pinned (.plain (OpenSpec.upto fitsLooseSpec)) fitsLooseUptoCard
end Rows
end Go.Proofs.YtefojbfihnnpdaaDoor
