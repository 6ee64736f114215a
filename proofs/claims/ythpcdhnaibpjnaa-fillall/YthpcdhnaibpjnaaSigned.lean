/-
  What Signed and ReadSigned of package num answer, for every argument.
-/
import Derived.Test.YthpcdhnaibpjnaaZig
import Derived.Test.YthpcdhnaibpjnaaRead
import Derived.Test.YthpcdhnaibpjnaaWrite
namespace Go.Proofs.Ythpcdhnaibpjnaa
open Go.ChangeShapes Go.WideShapes Go.ChangeAt Go.RowKit
set_option linter.unusedVariables false

theorem write_int (n : Int) (w : World) (h0 : 0 ≤ n) (h1 : n ≤ 18446744073709551615) :
    Calls Try.prog 20 #[.int .u64 n] w fun e w' => e = .returned (.string ⟨(NM.enc n.toNat).toArray⟩) ∧ Fr w w' := by
  obtain ⟨k, rfl⟩ := Int.eq_ofNat_of_zero_le h0
  rw [Int.toNat_natCast]
  exact write_any k w (by omega)

set_option maxHeartbeats 400000 in
theorem signed_any (n : Int) (w : World) (hl : -9223372036854775808 ≤ n) (hu : n ≤ 9223372036854775807) :
    Calls Try.prog 39 #[.int .i64 n] w fun e w' => e = .returned (.string ⟨(NM.enc (zigN n).toNat).toArray⟩) ∧ Fr w w' := by
  have hr := zig_range hl hu
  go_enter Try.func39, Try.ntmps39
  go_wp2_with (first | (go_at_call 52; refine (zig_any _ _ hl hu).mono ?_; rintro e w' ⟨rfl, rfl⟩) | (go_at_call 20; refine (write_int _ _ hr.1 hr.2).mono ?_; rintro e w' ⟨rfl, hb⟩))
  go_ret
  exact ⟨rfl, hb⟩

def rdsv (s : ByteArray) : Value := .tuple #[.int .i64 (zagN (NM.rd s.data.toList 0 0).1), .int .i64 (NM.rd s.data.toList 0 0).2.1, .int .i64 (NM.rd s.data.toList 0 0).2.2]

theorem rd_lt (s : ByteArray) : 0 ≤ ((NM.rd s.data.toList 0 0).1 : Int) ∧ ((NM.rd s.data.toList 0 0).1 : Int) ≤ 18446744073709551615 := by
  have h := NM.rd_lt s.data.toList
  omega

set_option maxHeartbeats 400000 in
theorem readSigned_any (s : ByteArray) (w : World) (hs : s.size ≤ maxLen) :
    Calls Try.prog 44 #[.string s] w fun e w' => e = .returned (rdsv s) ∧ w' = w := by
  have hr := rd_lt s
  go_enter Try.func44, Try.ntmps44
  go_wp2_with (first | (go_at_call 22; refine (read_any _ _ hs).mono ?_; rintro e w' ⟨rfl, rfl⟩; unfold rdv) | (go_at_call 55; refine (zag_any _ _ hr.1 hr.2).mono ?_; rintro e w' ⟨rfl, rfl⟩))
  go_ret3
  exact ⟨rfl, rfl⟩
end Go.Proofs.Ythpcdhnaibpjnaa
