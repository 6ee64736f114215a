/-
  DERIVED. GIVEN WITH THE SEED: THE CARDS: each row of YtaabandfjdnkjaaGreatDoorRows.lean that lists a variable, with what it lists TIED to the program's text (the seventh form; the later family's looks); each row that meets fmt, with fmt's text TOLD by the authors' own Lean function (tested against real Go, not proved from fmt's source: count such statements apart). THE CARD IS WHAT COUNTS. Prove the row's statement (the work); the ties are given (YtaabandfjdnkjaaGreatDoorTie.lean); close each card by the builder's one call (the guide's Derived/Test/ToyasCard.lean, 'card_holds'). Laid BY PROGRAM, IN A SANDBOX (cutbox-door.mjs). By AI agents, Wed Nov 11 2026. No macro, syntax, notation, axiom, sorry.
-/
import Derived.Test.YtaabandfjdnkjaaGreatDoorRows
import GoSem.ClaimSeven
namespace Go.Proofs.YtaabandfjdnkjaaGreatDoor
namespace Rows

/-- THE TIED CARD OF 'starlinglaw.FilterBoth'. -/
def filterBothCard : Claim7 := { stood := { row := filterBothRow, standIns := [], harness := (true, "3d9200482c1a8c9d4c0c2901940aba6e6f6453fca408f5f0e6919f8376bce52c"), looks := false }, kinds := [], alts := [], laidByText := true, laidKinds := [.data, .data, .data, .data, .data, .data, .pinned], laidTests := true, laidLooks := .later }
def FilterBothCardSaid : Prop := Claim7.holds Tryz.pinned (.plain (OpenSpec.ofChange filterBothSpec)) filterBothCard

/-- THE TIED CARD OF 'starlinglaw.FilterThree'. -/
def filterThreeCard : Claim7 := { stood := { row := filterThreeRow, standIns := [], harness := (true, "3d9200482c1a8c9d4c0c2901940aba6e6f6453fca408f5f0e6919f8376bce52c"), looks := false }, kinds := [], alts := [], laidByText := true, laidKinds := [.data, .data, .data, .data, .data, .data, .pinned], laidTests := true, laidLooks := .later }
def FilterThreeCardSaid : Prop := Claim7.holds Tryz.pinned (.plain (OpenSpec.ofChange filterThreeSpec)) filterThreeCard

/-- THE TIED CARD OF 'starlinglaw.OrderMoves'. -/
def orderMovesCard : Claim7 := { stood := { row := orderMovesRow, standIns := [], harness := (true, "3d9200482c1a8c9d4c0c2901940aba6e6f6453fca408f5f0e6919f8376bce52c"), looks := false }, kinds := [], alts := [], laidByText := true, laidKinds := [.data, .data, .data, .data, .data, .data, .pinned], laidTests := true, laidLooks := .later }
def OrderMovesCardSaid : Prop := Claim7.holds Tryz.pinned (.plain (OpenSpec.ofChange orderMovesSpec)) orderMovesCard

/-- THE TIED CARD OF 'starlinglaw.OrderKeys'. -/
def orderKeysCard : Claim7 := { stood := { row := orderKeysRow, standIns := [], harness := (true, "3d9200482c1a8c9d4c0c2901940aba6e6f6453fca408f5f0e6919f8376bce52c"), looks := false }, kinds := [], alts := [], laidByText := true, laidKinds := [.data, .data, .data, .data, .data, .data, .pinned], laidTests := true, laidLooks := .later }
def OrderKeysCardSaid : Prop := Claim7.holds Tryz.pinned (.plain (OpenSpec.ofChange orderKeysSpec)) orderKeysCard

/-- THE TIED CARD OF 'starlinglaw.OrderFilter'. -/
def orderFilterCard : Claim7 := { stood := { row := orderFilterRow, standIns := [], harness := (true, "3d9200482c1a8c9d4c0c2901940aba6e6f6453fca408f5f0e6919f8376bce52c"), looks := false }, kinds := [], alts := [], laidByText := true, laidKinds := [.data, .data, .data, .data, .data, .data, .pinned], laidTests := true, laidLooks := .later }
def OrderFilterCardSaid : Prop := Claim7.holds Tryz.pinned (.plain (OpenSpec.ofChange orderFilterSpec)) orderFilterCard

/-- THE TIED CARD OF 'starlinglaw.JoinTurned'. -/
def joinTurnedCard : Claim7 := { stood := { row := joinTurnedRow, standIns := [], harness := (true, "3d9200482c1a8c9d4c0c2901940aba6e6f6453fca408f5f0e6919f8376bce52c"), looks := false }, kinds := [], alts := [], laidByText := true, laidKinds := [.data, .data, .data, .data, .data, .data, .pinned], laidTests := true, laidLooks := .later }
def JoinTurnedCardSaid : Prop := Claim7.holds Tryz.pinned (.plain (OpenSpec.ofChange joinTurnedSpec)) joinTurnedCard

/-- THE TIED CARD OF 'starlinglaw.GroupCounts'. -/
def groupCountsCard : Claim7 := { stood := { row := groupCountsRow, standIns := [], harness := (true, "3d9200482c1a8c9d4c0c2901940aba6e6f6453fca408f5f0e6919f8376bce52c"), looks := false }, kinds := [], alts := [], laidByText := true, laidKinds := [.data, .data, .data, .data, .data, .data, .pinned], laidTests := true, laidLooks := .later }
def GroupCountsCardSaid : Prop := Claim7.holds Tryz.pinned (.plain (OpenSpec.ofChange groupCountsSpec)) groupCountsCard

/-- THE TIED CARD OF 'starlinglaw.GroupWhole'. -/
def groupWholeCard : Claim7 := { stood := { row := groupWholeRow, standIns := [], harness := (true, "3d9200482c1a8c9d4c0c2901940aba6e6f6453fca408f5f0e6919f8376bce52c"), looks := false }, kinds := [], alts := [], laidByText := true, laidKinds := [.data, .data, .data, .data, .data, .data, .pinned], laidTests := true, laidLooks := .later }
def GroupWholeCardSaid : Prop := Claim7.holds Tryz.pinned (.plain (OpenSpec.ofChange groupWholeSpec)) groupWholeCard

/-- THE SECOND FORM's CARD OF 'starlinglaw.FilterBoth'. -/
def filterBothUptoCard : Claim7 := { stood := { row := filterBothUptoRow, standIns := [], harness := (true, "3d9200482c1a8c9d4c0c2901940aba6e6f6453fca408f5f0e6919f8376bce52c"), looks := false }, kinds := [], alts := [], laidByText := true, laidKinds := [.data, .data, .data, .data, .data, .data, .pinned], laidTests := true, laidLooks := .later }
def FilterBothUptoCardSaid : Prop := Claim7.holds Tryz.pinned (.plain (OpenSpec.upto filterBothSpec)) filterBothUptoCard

/-- THE SECOND FORM's CARD OF 'starlinglaw.FilterThree'. -/
def filterThreeUptoCard : Claim7 := { stood := { row := filterThreeUptoRow, standIns := [], harness := (true, "3d9200482c1a8c9d4c0c2901940aba6e6f6453fca408f5f0e6919f8376bce52c"), looks := false }, kinds := [], alts := [], laidByText := true, laidKinds := [.data, .data, .data, .data, .data, .data, .pinned], laidTests := true, laidLooks := .later }
def FilterThreeUptoCardSaid : Prop := Claim7.holds Tryz.pinned (.plain (OpenSpec.upto filterThreeSpec)) filterThreeUptoCard

/-- THE SECOND FORM's CARD OF 'starlinglaw.OrderMoves'. -/
def orderMovesUptoCard : Claim7 := { stood := { row := orderMovesUptoRow, standIns := [], harness := (true, "3d9200482c1a8c9d4c0c2901940aba6e6f6453fca408f5f0e6919f8376bce52c"), looks := false }, kinds := [], alts := [], laidByText := true, laidKinds := [.data, .data, .data, .data, .data, .data, .pinned], laidTests := true, laidLooks := .later }
def OrderMovesUptoCardSaid : Prop := Claim7.holds Tryz.pinned (.plain (OpenSpec.upto orderMovesSpec)) orderMovesUptoCard

/-- THE SECOND FORM's CARD OF 'starlinglaw.OrderKeys'. -/
def orderKeysUptoCard : Claim7 := { stood := { row := orderKeysUptoRow, standIns := [], harness := (true, "3d9200482c1a8c9d4c0c2901940aba6e6f6453fca408f5f0e6919f8376bce52c"), looks := false }, kinds := [], alts := [], laidByText := true, laidKinds := [.data, .data, .data, .data, .data, .data, .pinned], laidTests := true, laidLooks := .later }
def OrderKeysUptoCardSaid : Prop := Claim7.holds Tryz.pinned (.plain (OpenSpec.upto orderKeysSpec)) orderKeysUptoCard

/-- THE SECOND FORM's CARD OF 'starlinglaw.OrderFilter'. -/
def orderFilterUptoCard : Claim7 := { stood := { row := orderFilterUptoRow, standIns := [], harness := (true, "3d9200482c1a8c9d4c0c2901940aba6e6f6453fca408f5f0e6919f8376bce52c"), looks := false }, kinds := [], alts := [], laidByText := true, laidKinds := [.data, .data, .data, .data, .data, .data, .pinned], laidTests := true, laidLooks := .later }
def OrderFilterUptoCardSaid : Prop := Claim7.holds Tryz.pinned (.plain (OpenSpec.upto orderFilterSpec)) orderFilterUptoCard

/-- THE SECOND FORM's CARD OF 'starlinglaw.JoinTurned'. -/
def joinTurnedUptoCard : Claim7 := { stood := { row := joinTurnedUptoRow, standIns := [], harness := (true, "3d9200482c1a8c9d4c0c2901940aba6e6f6453fca408f5f0e6919f8376bce52c"), looks := false }, kinds := [], alts := [], laidByText := true, laidKinds := [.data, .data, .data, .data, .data, .data, .pinned], laidTests := true, laidLooks := .later }
def JoinTurnedUptoCardSaid : Prop := Claim7.holds Tryz.pinned (.plain (OpenSpec.upto joinTurnedSpec)) joinTurnedUptoCard

/-- THE SECOND FORM's CARD OF 'starlinglaw.GroupCounts'. -/
def groupCountsUptoCard : Claim7 := { stood := { row := groupCountsUptoRow, standIns := [], harness := (true, "3d9200482c1a8c9d4c0c2901940aba6e6f6453fca408f5f0e6919f8376bce52c"), looks := false }, kinds := [], alts := [], laidByText := true, laidKinds := [.data, .data, .data, .data, .data, .data, .pinned], laidTests := true, laidLooks := .later }
def GroupCountsUptoCardSaid : Prop := Claim7.holds Tryz.pinned (.plain (OpenSpec.upto groupCountsSpec)) groupCountsUptoCard

/-- THE SECOND FORM's CARD OF 'starlinglaw.GroupWhole'. -/
def groupWholeUptoCard : Claim7 := { stood := { row := groupWholeUptoRow, standIns := [], harness := (true, "3d9200482c1a8c9d4c0c2901940aba6e6f6453fca408f5f0e6919f8376bce52c"), looks := false }, kinds := [], alts := [], laidByText := true, laidKinds := [.data, .data, .data, .data, .data, .data, .pinned], laidTests := true, laidLooks := .later }
def GroupWholeUptoCardSaid : Prop := Claim7.holds Tryz.pinned (.plain (OpenSpec.upto groupWholeSpec)) groupWholeUptoCard
end Rows
end Go.Proofs.YtaabandfjdnkjaaGreatDoor
