/-
  DERIVED. GIVEN WITH THE SEED: THE CARDS: each row of YtjljohmflhmkmaaGreatDoorRows.lean that lists a variable, with what it lists TIED to the program's text (the seventh form; the later family's looks); each row that meets fmt, with fmt's text TOLD by the authors' own Lean function (tested against real Go, not proved from fmt's source: count such statements apart). THE CARD IS WHAT COUNTS. Prove the row's statement (the work); the ties are given (YtjljohmflhmkmaaGreatDoorTie.lean); close each card by the builder's one call (the guide's Derived/Test/ToyasCard.lean, 'card_holds'). Laid BY PROGRAM, IN A SANDBOX (cutbox-door.mjs). By AI agents, Wed Nov 11 2026. No macro, syntax, notation, axiom, sorry.
-/
import Derived.Test.YtjljohmflhmkmaaGreatDoorRows
import GoSem.ClaimSeven
namespace Go.Proofs.YtjljohmflhmkmaaGreatDoor
namespace Rows

/-- THE TIED CARD OF 'starlinglaw.EvalTells'. -/
def evalTellsCard : Claim7 := { stood := { row := evalTellsRow, standIns := [], harness := (true, "96cea82cc36b5cf1a3380f7b37f60b58bdddc176841e44ac2e27ea7ff724803d"), looks := false }, kinds := [], alts := [], laidByText := true, laidKinds := [.data, .data, .data, .data, .data, .data, .pinned], laidTests := true, laidLooks := .later }
def EvalTellsCardSaid : Prop := Claim7.holds Tryz.pinned (.plain (OpenSpec.ofChange evalTellsSpec)) evalTellsCard

/-- THE TIED CARD OF 'starlinglaw.TruthTells'. -/
def truthTellsCard : Claim7 := { stood := { row := truthTellsRow, standIns := [], harness := (true, "96cea82cc36b5cf1a3380f7b37f60b58bdddc176841e44ac2e27ea7ff724803d"), looks := false }, kinds := [], alts := [], laidByText := true, laidKinds := [.data, .data, .data, .data, .data, .data, .pinned], laidTests := true, laidLooks := .later }
def TruthTellsCardSaid : Prop := Claim7.holds Tryz.pinned (.plain (OpenSpec.ofChange truthTellsSpec)) truthTellsCard

/-- THE TIED CARD OF 'starlinglaw.EvalMore'. -/
def evalMoreCard : Claim7 := { stood := { row := evalMoreRow, standIns := [], harness := (true, "96cea82cc36b5cf1a3380f7b37f60b58bdddc176841e44ac2e27ea7ff724803d"), looks := false }, kinds := [], alts := [], laidByText := true, laidKinds := [.data, .data, .data, .data, .data, .data, .pinned], laidTests := true, laidLooks := .later }
def EvalMoreCardSaid : Prop := Claim7.holds Tryz.pinned (.plain (OpenSpec.ofChange evalMoreSpec)) evalMoreCard

/-- THE TIED CARD OF 'starlinglaw.EvalPlaced'. -/
def evalPlacedCard : Claim7 := { stood := { row := evalPlacedRow, standIns := [], harness := (true, "96cea82cc36b5cf1a3380f7b37f60b58bdddc176841e44ac2e27ea7ff724803d"), looks := false }, kinds := [], alts := [], laidByText := true, laidKinds := [.data, .data, .data, .data, .data, .data, .pinned], laidTests := true, laidLooks := .later }
def EvalPlacedCardSaid : Prop := Claim7.holds Tryz.pinned (.plain (OpenSpec.ofChange evalPlacedSpec)) evalPlacedCard

/-- THE TIED CARD OF 'starlinglaw.EvalKids'. -/
def evalKidsCard : Claim7 := { stood := { row := evalKidsRow, standIns := [], harness := (true, "96cea82cc36b5cf1a3380f7b37f60b58bdddc176841e44ac2e27ea7ff724803d"), looks := false }, kinds := [], alts := [], laidByText := true, laidKinds := [.data, .data, .data, .data, .data, .data, .pinned], laidTests := true, laidLooks := .later }
def EvalKidsCardSaid : Prop := Claim7.holds Tryz.pinned (.plain (OpenSpec.ofChange evalKidsSpec)) evalKidsCard

/-- THE TIED CARD OF 'starlinglaw.FoldTells'. -/
def foldTellsCard : Claim7 := { stood := { row := foldTellsRow, standIns := [], harness := (true, "96cea82cc36b5cf1a3380f7b37f60b58bdddc176841e44ac2e27ea7ff724803d"), looks := false }, kinds := [], alts := [], laidByText := true, laidKinds := [.data, .data, .data, .data, .data, .data, .pinned], laidTests := true, laidLooks := .later }
def FoldTellsCardSaid : Prop := Claim7.holds Tryz.pinned (.plain (OpenSpec.ofChange foldTellsSpec)) foldTellsCard

/-- THE TIED CARD OF 'starlinglaw.FoldSame'. -/
def foldSameCard : Claim7 := { stood := { row := foldSameRow, standIns := [], harness := (true, "96cea82cc36b5cf1a3380f7b37f60b58bdddc176841e44ac2e27ea7ff724803d"), looks := false }, kinds := [], alts := [], laidByText := true, laidKinds := [.data, .data, .data, .data, .data, .data, .pinned], laidTests := true, laidLooks := .later }
def FoldSameCardSaid : Prop := Claim7.holds Tryz.pinned (.plain (OpenSpec.ofChange foldSameSpec)) foldSameCard

/-- THE TIED CARD OF 'starlinglaw.PushTells'. -/
def pushTellsCard : Claim7 := { stood := { row := pushTellsRow, standIns := [], harness := (true, "96cea82cc36b5cf1a3380f7b37f60b58bdddc176841e44ac2e27ea7ff724803d"), looks := false }, kinds := [], alts := [], laidByText := true, laidKinds := [.data, .data, .data, .data, .data, .data, .pinned], laidTests := true, laidLooks := .later }
def PushTellsCardSaid : Prop := Claim7.holds Tryz.pinned (.plain (OpenSpec.ofChange pushTellsSpec)) pushTellsCard

/-- THE TIED CARD OF 'starlinglaw.PushSame'. -/
def pushSameCard : Claim7 := { stood := { row := pushSameRow, standIns := [], harness := (true, "96cea82cc36b5cf1a3380f7b37f60b58bdddc176841e44ac2e27ea7ff724803d"), looks := false }, kinds := [], alts := [], laidByText := true, laidKinds := [.data, .data, .data, .data, .data, .data, .pinned], laidTests := true, laidLooks := .later }
def PushSameCardSaid : Prop := Claim7.holds Tryz.pinned (.plain (OpenSpec.ofChange pushSameSpec)) pushSameCard

/-- THE TIED CARD OF 'starlinglaw.PushDown'. -/
def pushDownCard : Claim7 := { stood := { row := pushDownRow, standIns := [], harness := (true, "96cea82cc36b5cf1a3380f7b37f60b58bdddc176841e44ac2e27ea7ff724803d"), looks := false }, kinds := [], alts := [], laidByText := true, laidKinds := [.data, .data, .data, .data, .data, .data, .pinned], laidTests := true, laidLooks := .later }
def PushDownCardSaid : Prop := Claim7.holds Tryz.pinned (.plain (OpenSpec.ofChange pushDownSpec)) pushDownCard

/-- THE SECOND FORM's CARD OF 'starlinglaw.EvalTells'. -/
def evalTellsUptoCard : Claim7 := { stood := { row := evalTellsUptoRow, standIns := [], harness := (true, "96cea82cc36b5cf1a3380f7b37f60b58bdddc176841e44ac2e27ea7ff724803d"), looks := false }, kinds := [], alts := [], laidByText := true, laidKinds := [.data, .data, .data, .data, .data, .data, .pinned], laidTests := true, laidLooks := .later }
def EvalTellsUptoCardSaid : Prop := Claim7.holds Tryz.pinned (.plain (OpenSpec.upto evalTellsSpec)) evalTellsUptoCard

/-- THE SECOND FORM's CARD OF 'starlinglaw.TruthTells'. -/
def truthTellsUptoCard : Claim7 := { stood := { row := truthTellsUptoRow, standIns := [], harness := (true, "96cea82cc36b5cf1a3380f7b37f60b58bdddc176841e44ac2e27ea7ff724803d"), looks := false }, kinds := [], alts := [], laidByText := true, laidKinds := [.data, .data, .data, .data, .data, .data, .pinned], laidTests := true, laidLooks := .later }
def TruthTellsUptoCardSaid : Prop := Claim7.holds Tryz.pinned (.plain (OpenSpec.upto truthTellsSpec)) truthTellsUptoCard

/-- THE SECOND FORM's CARD OF 'starlinglaw.EvalMore'. -/
def evalMoreUptoCard : Claim7 := { stood := { row := evalMoreUptoRow, standIns := [], harness := (true, "96cea82cc36b5cf1a3380f7b37f60b58bdddc176841e44ac2e27ea7ff724803d"), looks := false }, kinds := [], alts := [], laidByText := true, laidKinds := [.data, .data, .data, .data, .data, .data, .pinned], laidTests := true, laidLooks := .later }
def EvalMoreUptoCardSaid : Prop := Claim7.holds Tryz.pinned (.plain (OpenSpec.upto evalMoreSpec)) evalMoreUptoCard

/-- THE SECOND FORM's CARD OF 'starlinglaw.EvalPlaced'. -/
def evalPlacedUptoCard : Claim7 := { stood := { row := evalPlacedUptoRow, standIns := [], harness := (true, "96cea82cc36b5cf1a3380f7b37f60b58bdddc176841e44ac2e27ea7ff724803d"), looks := false }, kinds := [], alts := [], laidByText := true, laidKinds := [.data, .data, .data, .data, .data, .data, .pinned], laidTests := true, laidLooks := .later }
def EvalPlacedUptoCardSaid : Prop := Claim7.holds Tryz.pinned (.plain (OpenSpec.upto evalPlacedSpec)) evalPlacedUptoCard

/-- THE SECOND FORM's CARD OF 'starlinglaw.EvalKids'. -/
def evalKidsUptoCard : Claim7 := { stood := { row := evalKidsUptoRow, standIns := [], harness := (true, "96cea82cc36b5cf1a3380f7b37f60b58bdddc176841e44ac2e27ea7ff724803d"), looks := false }, kinds := [], alts := [], laidByText := true, laidKinds := [.data, .data, .data, .data, .data, .data, .pinned], laidTests := true, laidLooks := .later }
def EvalKidsUptoCardSaid : Prop := Claim7.holds Tryz.pinned (.plain (OpenSpec.upto evalKidsSpec)) evalKidsUptoCard

/-- THE SECOND FORM's CARD OF 'starlinglaw.FoldTells'. -/
def foldTellsUptoCard : Claim7 := { stood := { row := foldTellsUptoRow, standIns := [], harness := (true, "96cea82cc36b5cf1a3380f7b37f60b58bdddc176841e44ac2e27ea7ff724803d"), looks := false }, kinds := [], alts := [], laidByText := true, laidKinds := [.data, .data, .data, .data, .data, .data, .pinned], laidTests := true, laidLooks := .later }
def FoldTellsUptoCardSaid : Prop := Claim7.holds Tryz.pinned (.plain (OpenSpec.upto foldTellsSpec)) foldTellsUptoCard

/-- THE SECOND FORM's CARD OF 'starlinglaw.FoldSame'. -/
def foldSameUptoCard : Claim7 := { stood := { row := foldSameUptoRow, standIns := [], harness := (true, "96cea82cc36b5cf1a3380f7b37f60b58bdddc176841e44ac2e27ea7ff724803d"), looks := false }, kinds := [], alts := [], laidByText := true, laidKinds := [.data, .data, .data, .data, .data, .data, .pinned], laidTests := true, laidLooks := .later }
def FoldSameUptoCardSaid : Prop := Claim7.holds Tryz.pinned (.plain (OpenSpec.upto foldSameSpec)) foldSameUptoCard

/-- THE SECOND FORM's CARD OF 'starlinglaw.PushTells'. -/
def pushTellsUptoCard : Claim7 := { stood := { row := pushTellsUptoRow, standIns := [], harness := (true, "96cea82cc36b5cf1a3380f7b37f60b58bdddc176841e44ac2e27ea7ff724803d"), looks := false }, kinds := [], alts := [], laidByText := true, laidKinds := [.data, .data, .data, .data, .data, .data, .pinned], laidTests := true, laidLooks := .later }
def PushTellsUptoCardSaid : Prop := Claim7.holds Tryz.pinned (.plain (OpenSpec.upto pushTellsSpec)) pushTellsUptoCard

/-- THE SECOND FORM's CARD OF 'starlinglaw.PushSame'. -/
def pushSameUptoCard : Claim7 := { stood := { row := pushSameUptoRow, standIns := [], harness := (true, "96cea82cc36b5cf1a3380f7b37f60b58bdddc176841e44ac2e27ea7ff724803d"), looks := false }, kinds := [], alts := [], laidByText := true, laidKinds := [.data, .data, .data, .data, .data, .data, .pinned], laidTests := true, laidLooks := .later }
def PushSameUptoCardSaid : Prop := Claim7.holds Tryz.pinned (.plain (OpenSpec.upto pushSameSpec)) pushSameUptoCard

/-- THE SECOND FORM's CARD OF 'starlinglaw.PushDown'. -/
def pushDownUptoCard : Claim7 := { stood := { row := pushDownUptoRow, standIns := [], harness := (true, "96cea82cc36b5cf1a3380f7b37f60b58bdddc176841e44ac2e27ea7ff724803d"), looks := false }, kinds := [], alts := [], laidByText := true, laidKinds := [.data, .data, .data, .data, .data, .data, .pinned], laidTests := true, laidLooks := .later }
def PushDownUptoCardSaid : Prop := Claim7.holds Tryz.pinned (.plain (OpenSpec.upto pushDownSpec)) pushDownUptoCard
end Rows
end Go.Proofs.YtjljohmflhmkmaaGreatDoor
