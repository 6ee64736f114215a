/-
  What Signed and ReadSigned of package num answer, for every argument.
-/
import Derived.Test.YtefojbfihnnpdaaDoorZig
import Derived.Test.YtefojbfihnnpdaaDoorWrite
namespace Go.Proofs.YtefojbfihnnpdaaDoor
open Go.ChangeShapes Go.WideShapes Go.ChangeAt Go.RowKit
set_option linter.unusedVariables false

theorem write_int (n : Int) (w : World) (h0 : 0 ≤ n) (h1 : n ≤ 18446744073709551615) :
    Calls Tryd.prog 64 #[.int .u64 n] w fun e w' => e = .returned (.string ⟨(NM.enc n.toNat).toArray⟩) ∧ Fr w w' := by
  obtain ⟨k, rfl⟩ := Int.eq_ofNat_of_zero_le h0
  rw [Int.toNat_natCast]
  exact write_any k w (by omega)

set_option maxHeartbeats 400000 in
theorem signed_any (n : Int) (w : World) (hl : -9223372036854775808 ≤ n) (hu : n ≤ 9223372036854775807) :
    Calls Tryd.prog 53 #[.int .i64 n] w fun e w' => e = .returned (.string ⟨(NM.enc (zigN n).toNat).toArray⟩) ∧ Fr w w' := by
  have hr := zig_range hl hu
  go_enter Tryd.func53, Tryd.ntmps53
  go_wp2_with (first | (go_at_call 67; refine (zig_any _ _ hl hu).mono ?_; rintro e w' ⟨rfl, rfl⟩) | (go_at_call 64; refine (write_int _ _ hr.1 hr.2).mono ?_; rintro e w' ⟨rfl, hb⟩))
  go_ret
  exact ⟨rfl, hb⟩

end Go.Proofs.YtefojbfihnnpdaaDoor
