/-
  A text of one byte: what ByteText answers.
-/
import Derived.Test.YthpcdhnaibpjnaaOpen
namespace Go.Proofs.Ythpcdhnaibpjnaa
open Go.ChangeShapes Go.WideShapes Go.ChangeAt Go.RowKit
set_option linter.unusedVariables false

theorem byte_conv (w : World) (b : UInt8) :
    (convert 70 9 (.slice (some ⟨w.heap.size, 0, none⟩) 1 1)).run Try.prog (w.alloc (.cells #[.int .u8 (b.toNat : Int)] 5)) = .ok (.string ⟨[b].toArray⟩) (w.alloc (.cells #[.int .u8 (b.toNat : Int)] 5)) := by
  refine run_convert_bytes_back (P := Try.prog) _ 70 9 5 ⟨w.heap.size, 0, none⟩ 1 [b] Try.underlying70 Try.underlying5 Try.underlying9 ?_
  intro j hj
  have : j = 0 := by simpa using hj
  subst this
  have hc := cell_one_new w (.int .u8 (b.toNat : Int)) 5 0 _ rfl
  rw [hc]
  rfl

set_option maxHeartbeats 400000 in
theorem byteText_any (b : UInt8) (w : World) :
    Calls Try.prog 16 #[.int .u8 (b.toNat : Int)] w fun e w' => e = .returned (.string ⟨[b].toArray⟩) ∧ Fr w w' := by
  have hc := byte_conv w b
  go_enter Try.func16, Try.ntmps16
  go_wp2
  go_ret
  exact ⟨rfl, (Fr.refl _).alloc _⟩

theorem byte_of {b : Int} (h : 0 ≤ b ∧ b ≤ 255) : ∃ u : UInt8, b = (u.toNat : Int) :=
  ⟨UInt8.ofNat b.toNat, by simp [UInt8.toNat_ofNat']; omega⟩
end Go.Proofs.Ythpcdhnaibpjnaa
