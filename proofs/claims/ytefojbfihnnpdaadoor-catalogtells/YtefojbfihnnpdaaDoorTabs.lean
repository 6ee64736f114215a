/-
  The tables that the statements list are not read here; what the cards want.
-/
import Derived.Test.YtefojbfihnnpdaaDoorCtBg
import Derived.Test.YtefojbfihnnpdaaDoorCtBk
import Derived.Test.YtefojbfihnnpdaaDoorOpenC
import Derived.Test.YtefojbfihnnpdaaDoorTie
import Derived.Test.YtefojbfihnnpdaaDoorCards
import Derived.ChangeMaps5
import Derived.PinnedBridge
import Derived.Lay
import Derived.SevenTiedAt
import Derived.Stop.Joined
namespace Go.Proofs.YtefojbfihnnpdaaDoor
open Go.ChangeShapes Go.WideShapes Go.ChangeAt Go.RowKit
set_option linter.unusedVariables false
set_option linter.unusedSimpArgs false

def Tb (_ : World) : Prop := True
theorem tabs_of_laid {l : List (String × DataW Unit)} {W : World} (h : laidMetH Tryd.prog l W) : Tb W := True.intro
end Go.Proofs.YtefojbfihnnpdaaDoor
