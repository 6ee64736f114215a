/-
  What the document's own answers for chapter 1 come to (NumBytes, NumOf, ZigOf, ZagOf, SignedOf): the same plain functions as the program's.
-/
import Derived.Test.YthpcdhnaibpjnaaSigned
namespace Go.Proofs.Ythpcdhnaibpjnaa
open Go.ChangeShapes Go.WideShapes Go.ChangeAt Go.RowKit
set_option linter.unusedVariables false

theorem data_append (a b : ByteArray) : (a ++ b).data.toList = a.data.toList ++ b.data.toList := by simp
theorem data_extract (a : ByteArray) (k : Nat) : (a.extract 0 k).data.toList = a.data.toList.take k := by simp

theorem one_conv (w : World) (n : Nat) (h : n < 256) :
    (convert 70 9 (.slice (some ⟨w.heap.size, 0, none⟩) 1 1)).run Try.prog (w.alloc (.cells #[.int .u8 (n : Int)] 5)) = .ok (.string ⟨[UInt8.ofNat n].toArray⟩) (w.alloc (.cells #[.int .u8 (n : Int)] 5)) := by
  refine run_convert_bytes_back (P := Try.prog) _ 70 9 5 ⟨w.heap.size, 0, none⟩ 1 [UInt8.ofNat n] Try.underlying70 Try.underlying5 Try.underlying9 ?_
  intro j hj
  have : j = 0 := by simpa using hj
  subst this
  have hc := cell_one_new w (.int .u8 (n : Int)) 5 0 _ rfl
  rw [hc]
  simp only [List.getElem_cons_zero, NM.toNat_ofNat h]

set_option maxHeartbeats 400000 in
theorem oneByte_any (n : Nat) (w : World) (h : n < 256) :
    Calls Try.prog 47 #[.int .i64 (n : Int)] w fun e w' => e = .returned (.string ⟨[UInt8.ofNat n].toArray⟩) ∧ Fr w w' := by
  have hc := one_conv w n h
  have h' : (n : Int) < 256 := by omega
  go_enter Try.func47, Try.ntmps47
  go_wp2
  go_ret
  exact ⟨rfl, (Fr.refl _).alloc _⟩

theorem oneByte_int (n : Int) (w : World) (h0 : 0 ≤ n) (h1 : n < 256) :
    Calls Try.prog 47 #[.int .i64 n] w fun e w' => e = .returned (.string ⟨[UInt8.ofNat n.toNat].toArray⟩) ∧ Fr w w' := by
  obtain ⟨k, rfl⟩ := Int.eq_ofNat_of_zero_le h0
  rw [Int.toNat_natCast]
  exact oneByte_any k w (by omega)

theorem app_enc (n : Nat) (h : 128 ≤ n) : (⟨[UInt8.ofNat (n % 128 + 128)].toArray⟩ : ByteArray) ++ ⟨(NM.enc (n / 128)).toArray⟩ = ⟨(NM.enc n).toArray⟩ := by
  apply ByteArray.ext
  apply Array.toList_inj.1
  rw [data_append, NM.enc_big h]
  rfl

set_option maxRecDepth 100000 in
set_option maxHeartbeats 1000000 in
theorem numBytes_any : ∀ (n : Nat) (w : World), n < 18446744073709551616 →
    Calls Try.prog 26 #[.int .u64 (n : Int)] w fun e w' => e = .returned (.string ⟨(NM.enc n).toArray⟩) ∧ Fr w w' := by
  intro n
  induction n using Nat.strongRecOn with
  | ind n ih =>
    intro w hn
    have IH : Hid _ := ih
    clear ih
    by_cases h : n < 128
    · have h' : (n : Int) < 128 := by omega
      have HE : Hid _ := NM.enc_small h
      go_enter Try.func26, Try.ntmps26
      go_wp2_with (go_at_call 47; refine (oneByte_int _ _ (by omega) (by omega)).mono ?_; rintro e w' ⟨rfl, hb⟩)
      go_ret
      refine ⟨?_, hb⟩
      rw [HE.out]
      rfl
    · have h' : (128 : Int) ≤ (n : Int) := by omega
      have HE : Hid _ := app_enc n (by omega)
      have hsz : ((⟨[UInt8.ofNat ((n : Int) % 128 + 128).toNat].toArray⟩ : ByteArray).size : Nat) = 1 := rfl
      have hd : (n : Int) / 128 = ((n / 128 : Nat) : Int) := by omega
      have HD : Hid _ := hd
      have H10 : Hid ((NM.enc (n / 128)).length ≤ 10) := NM.enc_ten (by omega)
      clear hd
      go_enter Try.func26, Try.ntmps26
      go_wp2_with (go_at_call 47; refine (oneByte_int _ _ (by omega) (by omega)).mono ?_; rintro e w' ⟨rfl, hb⟩)
      rw [HD.out]
      refine (IH.out (n / 128) (by omega) _ (by omega)).mono ?_
      rintro e w2 ⟨rfl, hb2⟩
      have h10 := H10.out
      go_wp2
      go_ret
      exact ⟨ret_ba HE.out, Fr.trans hb hb2⟩

theorem numBytes_int (n : Int) (w : World) (h0 : 0 ≤ n) (h1 : n ≤ 18446744073709551615) :
    Calls Try.prog 26 #[.int .u64 n] w fun e w' => e = .returned (.string ⟨(NM.enc n.toNat).toArray⟩) ∧ Fr w w' := by
  obtain ⟨k, rfl⟩ := Int.eq_ofNat_of_zero_le h0
  rw [Int.toNat_natCast]
  exact numBytes_any k w (by omega)

set_option maxHeartbeats 400000 in
theorem zigOf_any (n : Int) (w : World) (hl : -9223372036854775808 ≤ n) (hu : n ≤ 9223372036854775807) :
    Calls Try.prog 27 #[.int .i64 n] w fun e w' => e = .returned (.int .u64 (zigN n)) ∧ w' = w := by
  by_cases h : n < 0
  · have hz : Hid (zigN n = -2 * n - 1) := by unfold zigN; exact if_neg (by omega)
    go_enter Try.func27, Try.ntmps27
    go_wp2
    go_ret
    refine ⟨ret_int ?_, rfl⟩
    rw [hz.out]
    try simp only [IntKind.wrap_u64]
    omega
  · have hz : Hid (zigN n = 2 * n) := by unfold zigN; exact if_pos (by omega)
    have h' : 0 ≤ n := by omega
    go_enter Try.func27, Try.ntmps27
    go_wp2
    go_ret
    refine ⟨ret_int ?_, rfl⟩
    rw [hz.out]

set_option maxHeartbeats 400000 in
theorem zagOf_any (n : Int) (w : World) (h0 : 0 ≤ n) (h1 : n ≤ 18446744073709551615) :
    Calls Try.prog 48 #[.int .u64 n] w fun e w' => e = .returned (.int .i64 (zagN n)) ∧ w' = w := by
  by_cases h : n % 2 = 0
  · have hz : Hid (zagN n = n / 2) := by unfold zagN; exact if_pos h
    go_enter Try.func48, Try.ntmps48
    go_wp2
    go_ret
    refine ⟨ret_int ?_, rfl⟩
    rw [hz.out]
  · have hz : Hid (zagN n = -(n / 2) - 1) := by unfold zagN; exact if_neg h
    have h' : n % 2 = 1 := by omega
    go_enter Try.func48, Try.ntmps48
    go_wp2
    go_ret
    refine ⟨ret_int ?_, rfl⟩
    rw [hz.out]
end Go.Proofs.Ythpcdhnaibpjnaa
