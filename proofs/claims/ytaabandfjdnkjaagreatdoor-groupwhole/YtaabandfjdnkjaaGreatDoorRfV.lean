/-
  What the document's own CheckValue answers.
-/
import Derived.Test.YtaabandfjdnkjaaGreatDoorGpB
namespace Go.Proofs.YtaabandfjdnkjaaGreatDoor
open Go.ChangeShapes Go.WideShapes Go.ChangeAt Go.RowKit
set_option linter.unusedVariables false
set_option linter.unusedSimpArgs false
end Go.Proofs.YtaabandfjdnkjaaGreatDoor
