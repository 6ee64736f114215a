/-
  DERIVED. GIVEN WITH THE SEED: THE CARDS: each row of YtoepifbpchpfkaaGreatDoorRows.lean that lists a variable, with what it lists TIED to the program's text (the seventh form; the later family's looks); each row that meets fmt, with fmt's text TOLD by the authors' own Lean function (tested against real Go, not proved from fmt's source: count such statements apart). THE CARD IS WHAT COUNTS. Prove the row's statement (the work); the ties are given (YtoepifbpchpfkaaGreatDoorTie.lean); close each card by the builder's one call (the guide's Derived/Test/ToyasCard.lean, 'card_holds'). Laid BY PROGRAM, IN A SANDBOX (cutbox-door.mjs). By AI agents, Wed Nov 11 2026. No macro, syntax, notation, axiom, sorry.
-/
import Derived.Test.YtoepifbpchpfkaaGreatDoorRows
import GoSem.ClaimSeven
namespace Go.Proofs.YtoepifbpchpfkaaGreatDoor
namespace Rows

/-- THE TIED CARD OF 'starlinglaw.FilterTells'. -/
def filterTellsCard : Claim7 := { stood := { row := filterTellsRow, standIns := [], harness := (true, "1ac927b6c31f7e9902634f50ce5f21d6511048fe18fc2768fe9f77e9756654d9"), looks := false }, kinds := [], alts := [], laidByText := true, laidKinds := [.data, .data, .data, .data, .data, .data, .pinned], laidTests := true, laidLooks := .later }
def FilterTellsCardSaid : Prop := Claim7.holds Tryz.pinned (.plain (OpenSpec.ofChange filterTellsSpec)) filterTellsCard

/-- THE TIED CARD OF 'starlinglaw.FilterBoth'. -/
def filterBothCard : Claim7 := { stood := { row := filterBothRow, standIns := [], harness := (true, "1ac927b6c31f7e9902634f50ce5f21d6511048fe18fc2768fe9f77e9756654d9"), looks := false }, kinds := [], alts := [], laidByText := true, laidKinds := [.data, .data, .data, .data, .data, .data, .pinned], laidTests := true, laidLooks := .later }
def FilterBothCardSaid : Prop := Claim7.holds Tryz.pinned (.plain (OpenSpec.ofChange filterBothSpec)) filterBothCard

/-- THE TIED CARD OF 'starlinglaw.FilterParts'. -/
def filterPartsCard : Claim7 := { stood := { row := filterPartsRow, standIns := [], harness := (true, "1ac927b6c31f7e9902634f50ce5f21d6511048fe18fc2768fe9f77e9756654d9"), looks := false }, kinds := [], alts := [], laidByText := true, laidKinds := [.data, .data, .data, .data, .data, .data, .pinned], laidTests := true, laidLooks := .later }
def FilterPartsCardSaid : Prop := Claim7.holds Tryz.pinned (.plain (OpenSpec.ofChange filterPartsSpec)) filterPartsCard

/-- THE TIED CARD OF 'starlinglaw.FilterThree'. -/
def filterThreeCard : Claim7 := { stood := { row := filterThreeRow, standIns := [], harness := (true, "1ac927b6c31f7e9902634f50ce5f21d6511048fe18fc2768fe9f77e9756654d9"), looks := false }, kinds := [], alts := [], laidByText := true, laidKinds := [.data, .data, .data, .data, .data, .data, .pinned], laidTests := true, laidLooks := .later }
def FilterThreeCardSaid : Prop := Claim7.holds Tryz.pinned (.plain (OpenSpec.ofChange filterThreeSpec)) filterThreeCard

/-- THE TIED CARD OF 'starlinglaw.ProjectTells'. -/
def projectTellsCard : Claim7 := { stood := { row := projectTellsRow, standIns := [], harness := (true, "1ac927b6c31f7e9902634f50ce5f21d6511048fe18fc2768fe9f77e9756654d9"), looks := false }, kinds := [], alts := [], laidByText := true, laidKinds := [.data, .data, .data, .data, .data, .data, .pinned], laidTests := true, laidLooks := .later }
def ProjectTellsCardSaid : Prop := Claim7.holds Tryz.pinned (.plain (OpenSpec.ofChange projectTellsSpec)) projectTellsCard

/-- THE TIED CARD OF 'starlinglaw.ProjectApart'. -/
def projectApartCard : Claim7 := { stood := { row := projectApartRow, standIns := [], harness := (true, "1ac927b6c31f7e9902634f50ce5f21d6511048fe18fc2768fe9f77e9756654d9"), looks := false }, kinds := [], alts := [], laidByText := true, laidKinds := [.data, .data, .data, .data, .data, .data, .pinned], laidTests := true, laidLooks := .later }
def ProjectApartCardSaid : Prop := Claim7.holds Tryz.pinned (.plain (OpenSpec.ofChange projectApartSpec)) projectApartCard

/-- THE TIED CARD OF 'starlinglaw.OrderTells'. -/
def orderTellsCard : Claim7 := { stood := { row := orderTellsRow, standIns := [], harness := (true, "1ac927b6c31f7e9902634f50ce5f21d6511048fe18fc2768fe9f77e9756654d9"), looks := false }, kinds := [], alts := [], laidByText := true, laidKinds := [.data, .data, .data, .data, .data, .data, .pinned], laidTests := true, laidLooks := .later }
def OrderTellsCardSaid : Prop := Claim7.holds Tryz.pinned (.plain (OpenSpec.ofChange orderTellsSpec)) orderTellsCard

/-- THE TIED CARD OF 'starlinglaw.OrderMoves'. -/
def orderMovesCard : Claim7 := { stood := { row := orderMovesRow, standIns := [], harness := (true, "1ac927b6c31f7e9902634f50ce5f21d6511048fe18fc2768fe9f77e9756654d9"), looks := false }, kinds := [], alts := [], laidByText := true, laidKinds := [.data, .data, .data, .data, .data, .data, .pinned], laidTests := true, laidLooks := .later }
def OrderMovesCardSaid : Prop := Claim7.holds Tryz.pinned (.plain (OpenSpec.ofChange orderMovesSpec)) orderMovesCard

/-- THE TIED CARD OF 'starlinglaw.OrderKeys'. -/
def orderKeysCard : Claim7 := { stood := { row := orderKeysRow, standIns := [], harness := (true, "1ac927b6c31f7e9902634f50ce5f21d6511048fe18fc2768fe9f77e9756654d9"), looks := false }, kinds := [], alts := [], laidByText := true, laidKinds := [.data, .data, .data, .data, .data, .data, .pinned], laidTests := true, laidLooks := .later }
def OrderKeysCardSaid : Prop := Claim7.holds Tryz.pinned (.plain (OpenSpec.ofChange orderKeysSpec)) orderKeysCard

/-- THE TIED CARD OF 'starlinglaw.OrderFilter'. -/
def orderFilterCard : Claim7 := { stood := { row := orderFilterRow, standIns := [], harness := (true, "1ac927b6c31f7e9902634f50ce5f21d6511048fe18fc2768fe9f77e9756654d9"), looks := false }, kinds := [], alts := [], laidByText := true, laidKinds := [.data, .data, .data, .data, .data, .data, .pinned], laidTests := true, laidLooks := .later }
def OrderFilterCardSaid : Prop := Claim7.holds Tryz.pinned (.plain (OpenSpec.ofChange orderFilterSpec)) orderFilterCard

/-- THE TIED CARD OF 'starlinglaw.DistinctTells'. -/
def distinctTellsCard : Claim7 := { stood := { row := distinctTellsRow, standIns := [], harness := (true, "1ac927b6c31f7e9902634f50ce5f21d6511048fe18fc2768fe9f77e9756654d9"), looks := false }, kinds := [], alts := [], laidByText := true, laidKinds := [.data, .data, .data, .data, .data, .data, .pinned], laidTests := true, laidLooks := .later }
def DistinctTellsCardSaid : Prop := Claim7.holds Tryz.pinned (.plain (OpenSpec.ofChange distinctTellsSpec)) distinctTellsCard

/-- THE TIED CARD OF 'starlinglaw.DistinctOnce'. -/
def distinctOnceCard : Claim7 := { stood := { row := distinctOnceRow, standIns := [], harness := (true, "1ac927b6c31f7e9902634f50ce5f21d6511048fe18fc2768fe9f77e9756654d9"), looks := false }, kinds := [], alts := [], laidByText := true, laidKinds := [.data, .data, .data, .data, .data, .data, .pinned], laidTests := true, laidLooks := .later }
def DistinctOnceCardSaid : Prop := Claim7.holds Tryz.pinned (.plain (OpenSpec.ofChange distinctOnceSpec)) distinctOnceCard

/-- THE TIED CARD OF 'starlinglaw.LimitParts'. -/
def limitPartsCard : Claim7 := { stood := { row := limitPartsRow, standIns := [], harness := (true, "1ac927b6c31f7e9902634f50ce5f21d6511048fe18fc2768fe9f77e9756654d9"), looks := false }, kinds := [], alts := [], laidByText := true, laidKinds := [.data, .data, .data, .data, .data, .data, .pinned], laidTests := true, laidLooks := .later }
def LimitPartsCardSaid : Prop := Claim7.holds Tryz.pinned (.plain (OpenSpec.ofChange limitPartsSpec)) limitPartsCard

/-- THE TIED CARD OF 'starlinglaw.JoinTells'. -/
def joinTellsCard : Claim7 := { stood := { row := joinTellsRow, standIns := [], harness := (true, "1ac927b6c31f7e9902634f50ce5f21d6511048fe18fc2768fe9f77e9756654d9"), looks := false }, kinds := [], alts := [], laidByText := true, laidKinds := [.data, .data, .data, .data, .data, .data, .pinned], laidTests := true, laidLooks := .later }
def JoinTellsCardSaid : Prop := Claim7.holds Tryz.pinned (.plain (OpenSpec.ofChange joinTellsSpec)) joinTellsCard

/-- THE TIED CARD OF 'starlinglaw.JoinTurned'. -/
def joinTurnedCard : Claim7 := { stood := { row := joinTurnedRow, standIns := [], harness := (true, "1ac927b6c31f7e9902634f50ce5f21d6511048fe18fc2768fe9f77e9756654d9"), looks := false }, kinds := [], alts := [], laidByText := true, laidKinds := [.data, .data, .data, .data, .data, .data, .pinned], laidTests := true, laidLooks := .later }
def JoinTurnedCardSaid : Prop := Claim7.holds Tryz.pinned (.plain (OpenSpec.ofChange joinTurnedSpec)) joinTurnedCard

/-- THE TIED CARD OF 'starlinglaw.JoinThree'. -/
def joinThreeCard : Claim7 := { stood := { row := joinThreeRow, standIns := [], harness := (true, "1ac927b6c31f7e9902634f50ce5f21d6511048fe18fc2768fe9f77e9756654d9"), looks := false }, kinds := [], alts := [], laidByText := true, laidKinds := [.data, .data, .data, .data, .data, .data, .pinned], laidTests := true, laidLooks := .later }
def JoinThreeCardSaid : Prop := Claim7.holds Tryz.pinned (.plain (OpenSpec.ofChange joinThreeSpec)) joinThreeCard

/-- THE TIED CARD OF 'starlinglaw.JoinParts'. -/
def joinPartsCard : Claim7 := { stood := { row := joinPartsRow, standIns := [], harness := (true, "1ac927b6c31f7e9902634f50ce5f21d6511048fe18fc2768fe9f77e9756654d9"), looks := false }, kinds := [], alts := [], laidByText := true, laidKinds := [.data, .data, .data, .data, .data, .data, .pinned], laidTests := true, laidLooks := .later }
def JoinPartsCardSaid : Prop := Claim7.holds Tryz.pinned (.plain (OpenSpec.ofChange joinPartsSpec)) joinPartsCard

/-- THE TIED CARD OF 'starlinglaw.GroupTells'. -/
def groupTellsCard : Claim7 := { stood := { row := groupTellsRow, standIns := [], harness := (true, "1ac927b6c31f7e9902634f50ce5f21d6511048fe18fc2768fe9f77e9756654d9"), looks := false }, kinds := [], alts := [], laidByText := true, laidKinds := [.data, .data, .data, .data, .data, .data, .pinned], laidTests := true, laidLooks := .later }
def GroupTellsCardSaid : Prop := Claim7.holds Tryz.pinned (.plain (OpenSpec.ofChange groupTellsSpec)) groupTellsCard

/-- THE TIED CARD OF 'starlinglaw.GroupCounts'. -/
def groupCountsCard : Claim7 := { stood := { row := groupCountsRow, standIns := [], harness := (true, "1ac927b6c31f7e9902634f50ce5f21d6511048fe18fc2768fe9f77e9756654d9"), looks := false }, kinds := [], alts := [], laidByText := true, laidKinds := [.data, .data, .data, .data, .data, .data, .pinned], laidTests := true, laidLooks := .later }
def GroupCountsCardSaid : Prop := Claim7.holds Tryz.pinned (.plain (OpenSpec.ofChange groupCountsSpec)) groupCountsCard

/-- THE TIED CARD OF 'starlinglaw.GroupWhole'. -/
def groupWholeCard : Claim7 := { stood := { row := groupWholeRow, standIns := [], harness := (true, "1ac927b6c31f7e9902634f50ce5f21d6511048fe18fc2768fe9f77e9756654d9"), looks := false }, kinds := [], alts := [], laidByText := true, laidKinds := [.data, .data, .data, .data, .data, .data, .pinned], laidTests := true, laidLooks := .later }
def GroupWholeCardSaid : Prop := Claim7.holds Tryz.pinned (.plain (OpenSpec.ofChange groupWholeSpec)) groupWholeCard

/-- THE TIED CARD OF 'starlinglaw.GroupDistinct'. -/
def groupDistinctCard : Claim7 := { stood := { row := groupDistinctRow, standIns := [], harness := (true, "1ac927b6c31f7e9902634f50ce5f21d6511048fe18fc2768fe9f77e9756654d9"), looks := false }, kinds := [], alts := [], laidByText := true, laidKinds := [.data, .data, .data, .data, .data, .data, .pinned], laidTests := true, laidLooks := .later }
def GroupDistinctCardSaid : Prop := Claim7.holds Tryz.pinned (.plain (OpenSpec.ofChange groupDistinctSpec)) groupDistinctCard

/-- THE SECOND FORM's CARD OF 'starlinglaw.FilterTells'. -/
def filterTellsUptoCard : Claim7 := { stood := { row := filterTellsUptoRow, standIns := [], harness := (true, "1ac927b6c31f7e9902634f50ce5f21d6511048fe18fc2768fe9f77e9756654d9"), looks := false }, kinds := [], alts := [], laidByText := true, laidKinds := [.data, .data, .data, .data, .data, .data, .pinned], laidTests := true, laidLooks := .later }
def FilterTellsUptoCardSaid : Prop := Claim7.holds Tryz.pinned (.plain (OpenSpec.upto filterTellsSpec)) filterTellsUptoCard

/-- THE SECOND FORM's CARD OF 'starlinglaw.FilterBoth'. -/
def filterBothUptoCard : Claim7 := { stood := { row := filterBothUptoRow, standIns := [], harness := (true, "1ac927b6c31f7e9902634f50ce5f21d6511048fe18fc2768fe9f77e9756654d9"), looks := false }, kinds := [], alts := [], laidByText := true, laidKinds := [.data, .data, .data, .data, .data, .data, .pinned], laidTests := true, laidLooks := .later }
def FilterBothUptoCardSaid : Prop := Claim7.holds Tryz.pinned (.plain (OpenSpec.upto filterBothSpec)) filterBothUptoCard

/-- THE SECOND FORM's CARD OF 'starlinglaw.FilterParts'. -/
def filterPartsUptoCard : Claim7 := { stood := { row := filterPartsUptoRow, standIns := [], harness := (true, "1ac927b6c31f7e9902634f50ce5f21d6511048fe18fc2768fe9f77e9756654d9"), looks := false }, kinds := [], alts := [], laidByText := true, laidKinds := [.data, .data, .data, .data, .data, .data, .pinned], laidTests := true, laidLooks := .later }
def FilterPartsUptoCardSaid : Prop := Claim7.holds Tryz.pinned (.plain (OpenSpec.upto filterPartsSpec)) filterPartsUptoCard

/-- THE SECOND FORM's CARD OF 'starlinglaw.FilterThree'. -/
def filterThreeUptoCard : Claim7 := { stood := { row := filterThreeUptoRow, standIns := [], harness := (true, "1ac927b6c31f7e9902634f50ce5f21d6511048fe18fc2768fe9f77e9756654d9"), looks := false }, kinds := [], alts := [], laidByText := true, laidKinds := [.data, .data, .data, .data, .data, .data, .pinned], laidTests := true, laidLooks := .later }
def FilterThreeUptoCardSaid : Prop := Claim7.holds Tryz.pinned (.plain (OpenSpec.upto filterThreeSpec)) filterThreeUptoCard

/-- THE SECOND FORM's CARD OF 'starlinglaw.ProjectTells'. -/
def projectTellsUptoCard : Claim7 := { stood := { row := projectTellsUptoRow, standIns := [], harness := (true, "1ac927b6c31f7e9902634f50ce5f21d6511048fe18fc2768fe9f77e9756654d9"), looks := false }, kinds := [], alts := [], laidByText := true, laidKinds := [.data, .data, .data, .data, .data, .data, .pinned], laidTests := true, laidLooks := .later }
def ProjectTellsUptoCardSaid : Prop := Claim7.holds Tryz.pinned (.plain (OpenSpec.upto projectTellsSpec)) projectTellsUptoCard

/-- THE SECOND FORM's CARD OF 'starlinglaw.ProjectApart'. -/
def projectApartUptoCard : Claim7 := { stood := { row := projectApartUptoRow, standIns := [], harness := (true, "1ac927b6c31f7e9902634f50ce5f21d6511048fe18fc2768fe9f77e9756654d9"), looks := false }, kinds := [], alts := [], laidByText := true, laidKinds := [.data, .data, .data, .data, .data, .data, .pinned], laidTests := true, laidLooks := .later }
def ProjectApartUptoCardSaid : Prop := Claim7.holds Tryz.pinned (.plain (OpenSpec.upto projectApartSpec)) projectApartUptoCard

/-- THE SECOND FORM's CARD OF 'starlinglaw.OrderTells'. -/
def orderTellsUptoCard : Claim7 := { stood := { row := orderTellsUptoRow, standIns := [], harness := (true, "1ac927b6c31f7e9902634f50ce5f21d6511048fe18fc2768fe9f77e9756654d9"), looks := false }, kinds := [], alts := [], laidByText := true, laidKinds := [.data, .data, .data, .data, .data, .data, .pinned], laidTests := true, laidLooks := .later }
def OrderTellsUptoCardSaid : Prop := Claim7.holds Tryz.pinned (.plain (OpenSpec.upto orderTellsSpec)) orderTellsUptoCard

/-- THE SECOND FORM's CARD OF 'starlinglaw.OrderMoves'. -/
def orderMovesUptoCard : Claim7 := { stood := { row := orderMovesUptoRow, standIns := [], harness := (true, "1ac927b6c31f7e9902634f50ce5f21d6511048fe18fc2768fe9f77e9756654d9"), looks := false }, kinds := [], alts := [], laidByText := true, laidKinds := [.data, .data, .data, .data, .data, .data, .pinned], laidTests := true, laidLooks := .later }
def OrderMovesUptoCardSaid : Prop := Claim7.holds Tryz.pinned (.plain (OpenSpec.upto orderMovesSpec)) orderMovesUptoCard

/-- THE SECOND FORM's CARD OF 'starlinglaw.OrderKeys'. -/
def orderKeysUptoCard : Claim7 := { stood := { row := orderKeysUptoRow, standIns := [], harness := (true, "1ac927b6c31f7e9902634f50ce5f21d6511048fe18fc2768fe9f77e9756654d9"), looks := false }, kinds := [], alts := [], laidByText := true, laidKinds := [.data, .data, .data, .data, .data, .data, .pinned], laidTests := true, laidLooks := .later }
def OrderKeysUptoCardSaid : Prop := Claim7.holds Tryz.pinned (.plain (OpenSpec.upto orderKeysSpec)) orderKeysUptoCard

/-- THE SECOND FORM's CARD OF 'starlinglaw.OrderFilter'. -/
def orderFilterUptoCard : Claim7 := { stood := { row := orderFilterUptoRow, standIns := [], harness := (true, "1ac927b6c31f7e9902634f50ce5f21d6511048fe18fc2768fe9f77e9756654d9"), looks := false }, kinds := [], alts := [], laidByText := true, laidKinds := [.data, .data, .data, .data, .data, .data, .pinned], laidTests := true, laidLooks := .later }
def OrderFilterUptoCardSaid : Prop := Claim7.holds Tryz.pinned (.plain (OpenSpec.upto orderFilterSpec)) orderFilterUptoCard

/-- THE SECOND FORM's CARD OF 'starlinglaw.DistinctTells'. -/
def distinctTellsUptoCard : Claim7 := { stood := { row := distinctTellsUptoRow, standIns := [], harness := (true, "1ac927b6c31f7e9902634f50ce5f21d6511048fe18fc2768fe9f77e9756654d9"), looks := false }, kinds := [], alts := [], laidByText := true, laidKinds := [.data, .data, .data, .data, .data, .data, .pinned], laidTests := true, laidLooks := .later }
def DistinctTellsUptoCardSaid : Prop := Claim7.holds Tryz.pinned (.plain (OpenSpec.upto distinctTellsSpec)) distinctTellsUptoCard

/-- THE SECOND FORM's CARD OF 'starlinglaw.DistinctOnce'. -/
def distinctOnceUptoCard : Claim7 := { stood := { row := distinctOnceUptoRow, standIns := [], harness := (true, "1ac927b6c31f7e9902634f50ce5f21d6511048fe18fc2768fe9f77e9756654d9"), looks := false }, kinds := [], alts := [], laidByText := true, laidKinds := [.data, .data, .data, .data, .data, .data, .pinned], laidTests := true, laidLooks := .later }
def DistinctOnceUptoCardSaid : Prop := Claim7.holds Tryz.pinned (.plain (OpenSpec.upto distinctOnceSpec)) distinctOnceUptoCard

/-- THE SECOND FORM's CARD OF 'starlinglaw.LimitParts'. -/
def limitPartsUptoCard : Claim7 := { stood := { row := limitPartsUptoRow, standIns := [], harness := (true, "1ac927b6c31f7e9902634f50ce5f21d6511048fe18fc2768fe9f77e9756654d9"), looks := false }, kinds := [], alts := [], laidByText := true, laidKinds := [.data, .data, .data, .data, .data, .data, .pinned], laidTests := true, laidLooks := .later }
def LimitPartsUptoCardSaid : Prop := Claim7.holds Tryz.pinned (.plain (OpenSpec.upto limitPartsSpec)) limitPartsUptoCard

/-- THE SECOND FORM's CARD OF 'starlinglaw.JoinTells'. -/
def joinTellsUptoCard : Claim7 := { stood := { row := joinTellsUptoRow, standIns := [], harness := (true, "1ac927b6c31f7e9902634f50ce5f21d6511048fe18fc2768fe9f77e9756654d9"), looks := false }, kinds := [], alts := [], laidByText := true, laidKinds := [.data, .data, .data, .data, .data, .data, .pinned], laidTests := true, laidLooks := .later }
def JoinTellsUptoCardSaid : Prop := Claim7.holds Tryz.pinned (.plain (OpenSpec.upto joinTellsSpec)) joinTellsUptoCard

/-- THE SECOND FORM's CARD OF 'starlinglaw.JoinTurned'. -/
def joinTurnedUptoCard : Claim7 := { stood := { row := joinTurnedUptoRow, standIns := [], harness := (true, "1ac927b6c31f7e9902634f50ce5f21d6511048fe18fc2768fe9f77e9756654d9"), looks := false }, kinds := [], alts := [], laidByText := true, laidKinds := [.data, .data, .data, .data, .data, .data, .pinned], laidTests := true, laidLooks := .later }
def JoinTurnedUptoCardSaid : Prop := Claim7.holds Tryz.pinned (.plain (OpenSpec.upto joinTurnedSpec)) joinTurnedUptoCard

/-- THE SECOND FORM's CARD OF 'starlinglaw.JoinThree'. -/
def joinThreeUptoCard : Claim7 := { stood := { row := joinThreeUptoRow, standIns := [], harness := (true, "1ac927b6c31f7e9902634f50ce5f21d6511048fe18fc2768fe9f77e9756654d9"), looks := false }, kinds := [], alts := [], laidByText := true, laidKinds := [.data, .data, .data, .data, .data, .data, .pinned], laidTests := true, laidLooks := .later }
def JoinThreeUptoCardSaid : Prop := Claim7.holds Tryz.pinned (.plain (OpenSpec.upto joinThreeSpec)) joinThreeUptoCard

/-- THE SECOND FORM's CARD OF 'starlinglaw.JoinParts'. -/
def joinPartsUptoCard : Claim7 := { stood := { row := joinPartsUptoRow, standIns := [], harness := (true, "1ac927b6c31f7e9902634f50ce5f21d6511048fe18fc2768fe9f77e9756654d9"), looks := false }, kinds := [], alts := [], laidByText := true, laidKinds := [.data, .data, .data, .data, .data, .data, .pinned], laidTests := true, laidLooks := .later }
def JoinPartsUptoCardSaid : Prop := Claim7.holds Tryz.pinned (.plain (OpenSpec.upto joinPartsSpec)) joinPartsUptoCard

/-- THE SECOND FORM's CARD OF 'starlinglaw.GroupTells'. -/
def groupTellsUptoCard : Claim7 := { stood := { row := groupTellsUptoRow, standIns := [], harness := (true, "1ac927b6c31f7e9902634f50ce5f21d6511048fe18fc2768fe9f77e9756654d9"), looks := false }, kinds := [], alts := [], laidByText := true, laidKinds := [.data, .data, .data, .data, .data, .data, .pinned], laidTests := true, laidLooks := .later }
def GroupTellsUptoCardSaid : Prop := Claim7.holds Tryz.pinned (.plain (OpenSpec.upto groupTellsSpec)) groupTellsUptoCard

/-- THE SECOND FORM's CARD OF 'starlinglaw.GroupCounts'. -/
def groupCountsUptoCard : Claim7 := { stood := { row := groupCountsUptoRow, standIns := [], harness := (true, "1ac927b6c31f7e9902634f50ce5f21d6511048fe18fc2768fe9f77e9756654d9"), looks := false }, kinds := [], alts := [], laidByText := true, laidKinds := [.data, .data, .data, .data, .data, .data, .pinned], laidTests := true, laidLooks := .later }
def GroupCountsUptoCardSaid : Prop := Claim7.holds Tryz.pinned (.plain (OpenSpec.upto groupCountsSpec)) groupCountsUptoCard

/-- THE SECOND FORM's CARD OF 'starlinglaw.GroupWhole'. -/
def groupWholeUptoCard : Claim7 := { stood := { row := groupWholeUptoRow, standIns := [], harness := (true, "1ac927b6c31f7e9902634f50ce5f21d6511048fe18fc2768fe9f77e9756654d9"), looks := false }, kinds := [], alts := [], laidByText := true, laidKinds := [.data, .data, .data, .data, .data, .data, .pinned], laidTests := true, laidLooks := .later }
def GroupWholeUptoCardSaid : Prop := Claim7.holds Tryz.pinned (.plain (OpenSpec.upto groupWholeSpec)) groupWholeUptoCard

/-- THE SECOND FORM's CARD OF 'starlinglaw.GroupDistinct'. -/
def groupDistinctUptoCard : Claim7 := { stood := { row := groupDistinctUptoRow, standIns := [], harness := (true, "1ac927b6c31f7e9902634f50ce5f21d6511048fe18fc2768fe9f77e9756654d9"), looks := false }, kinds := [], alts := [], laidByText := true, laidKinds := [.data, .data, .data, .data, .data, .data, .pinned], laidTests := true, laidLooks := .later }
def GroupDistinctUptoCardSaid : Prop := Claim7.holds Tryz.pinned (.plain (OpenSpec.upto groupDistinctSpec)) groupDistinctUptoCard
end Rows
end Go.Proofs.YtoepifbpchpfkaaGreatDoor
