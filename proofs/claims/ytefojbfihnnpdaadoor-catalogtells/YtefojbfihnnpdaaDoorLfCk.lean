/-
  What Check of package leaf answers.
-/
import Derived.Test.YtefojbfihnnpdaaDoorLfT
namespace Go.Proofs.YtefojbfihnnpdaaDoor
open Go.ChangeShapes Go.WideShapes Go.ChangeAt Go.RowKit
set_option linter.unusedVariables false
set_option linter.unusedSimpArgs false
set_option maxRecDepth 100000
set_option maxHeartbeats 1000000

theorem lcheck_any (v : Value) (l : List LF.En) (w : World) (hv : IsEn w v l) (hl : l.length ≤ 9223372036854775806) (hb : ∀ e ∈ l, LF.wideE e ∧ e.2.length ≤ 9223372036854775807) :
    Calls Tryd.prog 20 #[v] w fun e w' => e = .returned (.int .i64 (LF.chk l)) ∧ Fr w w' := by
  have ht := texts_any v l w hv hl hb
  clear hv hb
  by_cases h0 : LF.chk l = 0
  · rw [h0]
    simp only [TextsAs, if_pos h0] at ht
    go_enter Tryd.func20, Tryd.ntmps20
    go_wp2_with fail
    refine ht.mono ?_
    rintro _ w1 ⟨⟨u, rfl, hos⟩, hf⟩
    clear ht hos
    go_wp2_with fail
    go_ret
    exact ⟨rfl, hf⟩
  · simp only [TextsAs, if_neg h0] at ht
    generalize LF.chk l = c at *
    go_enter Tryd.func20, Tryd.ntmps20
    go_wp2_with fail
    refine ht.mono ?_
    rintro _ w1 ⟨rfl, hf⟩
    clear ht
    go_wp2_with fail
    go_ret
    exact ⟨rfl, hf⟩
end Go.Proofs.YtefojbfihnnpdaaDoor
