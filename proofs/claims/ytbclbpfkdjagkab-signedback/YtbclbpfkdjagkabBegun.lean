/-
  What Signed and ReadSigned of package num answer, for every argument; and that the examples which the statements hold first are met.
-/
import Derived.Test.YtbclbpfkdjagkabZig
import Derived.Test.YtbclbpfkdjagkabRead
import Derived.Test.YtbclbpfkdjagkabWrite
namespace Go.Proofs.Ytbclbpfkdjagkab
open Go.ChangeShapes Go.WideShapes Go.ChangeAt Go.RowKit
set_option linter.unusedVariables false

theorem write_int (n : Int) (w : World) (h0 : 0 ≤ n) (h1 : n ≤ 18446744073709551615) :
    Calls Try.prog 21 #[.int .u64 n] w fun e w' => e = .returned (.string ⟨(NM.enc n.toNat).toArray⟩) ∧ Fr w w' := by
  obtain ⟨k, rfl⟩ := Int.eq_ofNat_of_zero_le h0
  rw [Int.toNat_natCast]
  exact write_any k w (by omega)

set_option maxHeartbeats 400000 in
theorem signed_any (n : Int) (w : World) (hl : -9223372036854775808 ≤ n) (hu : n ≤ 9223372036854775807) :
    Calls Try.prog 10 #[.int .i64 n] w fun e w' => e = .returned (.string ⟨(NM.enc (zigN n).toNat).toArray⟩) ∧ Fr w w' := by
  have hr := zig_range hl hu
  go_enter Try.func10, Try.ntmps10
  go_wp2_with (first | (go_at_call 13; refine (zig_any _ _ hl hu).mono ?_; rintro e w' ⟨rfl, rfl⟩) | (go_at_call 21; refine (write_int _ _ hr.1 hr.2).mono ?_; rintro e w' ⟨rfl, hb⟩))
  go_ret
  exact ⟨rfl, hb⟩

def rdsv (s : ByteArray) : Value := .tuple #[.int .i64 (zagN (NM.rd s.data.toList 0 0).1), .int .i64 (NM.rd s.data.toList 0 0).2.1, .int .i64 (NM.rd s.data.toList 0 0).2.2]

theorem rd_lt (s : ByteArray) : 0 ≤ ((NM.rd s.data.toList 0 0).1 : Int) ∧ ((NM.rd s.data.toList 0 0).1 : Int) ≤ 18446744073709551615 := by
  have h := NM.rd_lt s.data.toList
  omega

set_option maxHeartbeats 400000 in
theorem readSigned_any (s : ByteArray) (w : World) (hs : s.size ≤ maxLen) :
    Calls Try.prog 9 #[.string s] w fun e w' => e = .returned (rdsv s) ∧ w' = w := by
  have hr := rd_lt s
  go_enter Try.func9, Try.ntmps9
  go_wp2_with (first | (go_at_call 20; refine (read_any _ _ hs).mono ?_; rintro e w' ⟨rfl, rfl⟩; unfold rdv) | (go_at_call 12; refine (zag_any _ _ hr.1 hr.2).mono ?_; rintro e w' ⟨rfl, rfl⟩))
  go_ret3
  exact ⟨rfl, rfl⟩

theorem rd300 : rdv ⟨#[172, 2, 122]⟩ = .tuple #[.int .u64 300, .int .i64 2, .int .i64 0] := by simp [rdv, NM.rd]
theorem rds3 : rdsv ⟨#[3]⟩ = .tuple #[.int .i64 (-2), .int .i64 1, .int .i64 0] := by simp [rdsv, NM.rd, zagN]
theorem rd128 : rdv ⟨#[128, 0]⟩ = .tuple #[.int .u64 0, .int .i64 0, .int .i64 1] := by simp [rdv, NM.rd]
theorem rd80 : rdv ⟨#[128]⟩ = .tuple #[.int .u64 0, .int .i64 0, .int .i64 5] := by simp [rdv, NM.rd]
theorem enc300 : NM.enc 300 = [172, 2] := by rw [NM.enc_big (by decide), NM.enc_small (by decide)]; rfl

set_option maxRecDepth 100000 in
set_option maxHeartbeats 1000000 in
theorem numBegun_any (w : World) :
    Calls Try.prog 11 #[] w fun e w' => e = .returned (.bool true) ∧ Fr w w' := by
  have e1 := rd300
  have e2 := rds3
  have e3 := rd128
  have e4 := rd80
  have e5 := enc300
  have e6 : zigN (-1) = 1 := by decide
  have e7 : zagN 2 = 1 := by decide
  go_enter Try.func11, Try.ntmps11
  go_wp2_with (first
    | (go_at_call 20; refine (read_any _ _ (by decide)).mono ?_; rintro e w' ⟨rfl, rfl⟩)
    | (go_at_call 9; refine (readSigned_any _ _ (by decide)).mono ?_; rintro e w' ⟨rfl, rfl⟩)
    | (go_at_call 21; refine (write_int _ _ (by decide) (by decide)).mono ?_; rintro e w' ⟨rfl, hb⟩)
    | (go_at_call 13; refine (zig_any _ _ (by decide) (by decide)).mono ?_; rintro e w' ⟨rfl, rfl⟩)
    | (go_at_call 12; refine (zag_any _ _ (by decide) (by decide)).mono ?_; rintro e w' ⟨rfl, rfl⟩))
  go_ret
  exact ⟨rfl, hb⟩

theorem data_append (a b : ByteArray) : (a ++ b).data.toList = a.data.toList ++ b.data.toList := by simp
theorem data_extract (a : ByteArray) (k : Nat) : (a.extract 0 k).data.toList = a.data.toList.take k := by simp

/-- what was written is read, whatever stands behind -/
theorem rd_enc_app (a : Int) (s : ByteArray) (h0 : 0 ≤ a) (h1 : a ≤ 18446744073709551615) :
    NM.rd ((⟨(NM.enc a.toNat).toArray⟩ : ByteArray) ++ s).data.toList 0 0 = (a.toNat, (NM.enc a.toNat).length, 0) := by
  rw [data_append]
  have := NM.rd_enc s.data.toList a.toNat 0 0 (by omega) (.inr rfl)
  simpa using this
theorem rdv_enc (a : Int) (s : ByteArray) (h0 : 0 ≤ a) (h1 : a ≤ 18446744073709551615) :
    rdv ((⟨(NM.enc a.toNat).toArray⟩ : ByteArray) ++ s) = .tuple #[.int .u64 a, .int .i64 (NM.enc a.toNat).length, .int .i64 0] := by
  unfold rdv
  rw [rd_enc_app a s h0 h1, show ((a.toNat : Nat) : Int) = a by omega]
  rfl
theorem rdv_cut (a k : Int) (h0 : 0 ≤ a) (h1 : a ≤ 18446744073709551615) (hk : 0 ≤ k) (hl : k < ((NM.enc a.toNat).length : Int)) :
    rdv ((⟨(NM.enc a.toNat).toArray⟩ : ByteArray).extract 0 k.toNat) = .tuple #[.int .u64 0, .int .i64 0, .int .i64 5] := by
  unfold rdv
  rw [data_extract]
  have h5 := NM.rd_cut a.toNat k.toNat 0 0 (by omega) (by omega)
  have hb := NM.rd_bad ((NM.enc a.toNat).take k.toNat) 0 0 (by rw [h5]; decide)
  rw [h5, hb.1, hb.2]
  rfl
end Go.Proofs.Ytbclbpfkdjagkab
