/-
  What the document's own keyOf answers of an Int.
-/
import Derived.Test.YtpalikdnpchdeaaRefKey
import Derived.LoopN
namespace Go.Proofs.Ytpalikdnpchdeaa
open Go.ChangeShapes Go.WideShapes Go.ChangeAt Go.RowKit
set_option linter.unusedVariables false
set_option linter.unusedSimpArgs false
set_option maxRecDepth 100000

theorem be8 (T : Nat) : KM.be 8 T = [UInt8.ofNat (T / 72057594037927936), UInt8.ofNat (T % 72057594037927936 / 281474976710656), UInt8.ofNat (T % 72057594037927936 % 281474976710656 / 1099511627776), UInt8.ofNat (T % 72057594037927936 % 281474976710656 % 1099511627776 / 4294967296), UInt8.ofNat (T % 72057594037927936 % 281474976710656 % 1099511627776 % 4294967296 / 16777216), UInt8.ofNat (T % 72057594037927936 % 281474976710656 % 1099511627776 % 4294967296 % 16777216 / 65536), UInt8.ofNat (T % 72057594037927936 % 281474976710656 % 1099511627776 % 4294967296 % 16777216 % 65536 / 256), UInt8.ofNat (T % 72057594037927936 % 281474976710656 % 1099511627776 % 4294967296 % 16777216 % 65536 % 256 / 1)] := by
  simp [KM.be]

set_option maxHeartbeats 4000000 in
theorem keyOf_int (n : Int) (s : ByteArray) (w : World) (h0 : -9223372036854775808 ≤ n) (h1 : n ≤ 9223372036854775807) :
    Calls Try.prog 48 #[.agg #[.int .i64 1, .int .i64 n, .string s]] w fun e w' => e = .returned (.string ⟨(KM.kb ⟨1, n, s⟩).toArray⟩) ∧ Fr w w' := by
  obtain ⟨N, hN⟩ : ∃ N : Nat, (n % 18446744073709551616) = (N : Int) := ⟨(n % 18446744073709551616).toNat, by omega⟩
  have hu : IntKind.u64.wrap n = (N : Int) := by rw [IntKind.wrap_u64]; exact hN
  have o16 := fun W => oneByte_any 16 W (by omega)
  obtain ⟨A0, hA0⟩ : ∃ A : ByteArray, A = ⟨[UInt8.ofNat 16].toArray⟩ := ⟨_, rfl⟩
  rw [← hA0] at o16
  have hz0 : A0.size = 1 := by rw [hA0]; rfl
  have HA0 : Hid (A0.data.toList = [16]) := by unfold Hid; rw [hA0]; rfl
  clear hA0
  go_enter Try.func48, Try.ntmps48
  go_wp2_with (go_at_call 35; refine (o16 _).mono ?_)
  rintro _ w1 ⟨rfl, hf1⟩
  have d1 : w1.cell? ⟨w.heap.size, 1, none⟩ = some (.int .i64 n) := cell_fr hf1 (by simp [go_sem])
  have HF1 : Hid (Fr w w1) := Fr.trans ((Fr.refl w).alloc _) hf1
  clear hf1 o16
  go_wp2_with fail
  refine wp_loop_rounds 9 ?_
  obtain ⟨b0, hb0⟩ : ∃ b : ByteArray, b = ⟨[UInt8.ofNat (((N : Int) / 72057594037927936 + 128) % 256).toNat].toArray⟩ := ⟨_, rfl⟩
  have ob0 := fun W => oneByte_int (((N : Int) / 72057594037927936 + 128) % 256) W (by omega) (by omega)
  rw [← hb0] at ob0
  have hs0 : b0.size = 1 := by rw [hb0]; rfl
  have HL0 : Hid (b0.data.toList = [UInt8.ofNat (((N : Int) / 72057594037927936 + 128) % 256).toNat]) := by unfold Hid; rw [hb0]
  have hq0 : A0.size + b0.size ≤ 9223372036854775807 := by omega
  clear hb0
  rw [rounds_succ]
  go_wp2_with (go_at_call 35; refine (ob0 _).mono ?_)
  rintro _ w2 ⟨rfl, hf0⟩
  have HF2 : Hid (Fr w w2) := Fr.trans HF1.out hf0
  clear hf0 ob0 HF1
  go_wp2_with fail
  have HA1 : Hid ((A0 ++ b0).data.toList = A0.data.toList ++ b0.data.toList) := data_append _ _
  have hz1 : (A0 ++ b0).size = 2 := by rw [ByteArray.size_append]; omega
  generalize A0 ++ b0 = A1 at *
  obtain ⟨b1, hb1⟩ : ∃ b : ByteArray, b = ⟨[UInt8.ofNat ((N : Int) / 281474976710656 % 256).toNat].toArray⟩ := ⟨_, rfl⟩
  have ob1 := fun W => oneByte_int ((N : Int) / 281474976710656 % 256) W (by omega) (by omega)
  rw [← hb1] at ob1
  have hs1 : b1.size = 1 := by rw [hb1]; rfl
  have HL1 : Hid (b1.data.toList = [UInt8.ofNat ((N : Int) / 281474976710656 % 256).toNat]) := by unfold Hid; rw [hb1]
  have hq1 : A1.size + b1.size ≤ 9223372036854775807 := by omega
  clear hb1
  rw [rounds_succ]
  go_wp2_with (go_at_call 35; refine (ob1 _).mono ?_)
  rintro _ w3 ⟨rfl, hf1⟩
  have HF3 : Hid (Fr w w3) := Fr.trans HF2.out hf1
  clear hf1 ob1 HF2
  go_wp2_with fail
  have HA2 : Hid ((A1 ++ b1).data.toList = A1.data.toList ++ b1.data.toList) := data_append _ _
  have hz2 : (A1 ++ b1).size = 3 := by rw [ByteArray.size_append]; omega
  generalize A1 ++ b1 = A2 at *
  obtain ⟨b2, hb2⟩ : ∃ b : ByteArray, b = ⟨[UInt8.ofNat ((N : Int) / 1099511627776 % 256).toNat].toArray⟩ := ⟨_, rfl⟩
  have ob2 := fun W => oneByte_int ((N : Int) / 1099511627776 % 256) W (by omega) (by omega)
  rw [← hb2] at ob2
  have hs2 : b2.size = 1 := by rw [hb2]; rfl
  have HL2 : Hid (b2.data.toList = [UInt8.ofNat ((N : Int) / 1099511627776 % 256).toNat]) := by unfold Hid; rw [hb2]
  have hq2 : A2.size + b2.size ≤ 9223372036854775807 := by omega
  clear hb2
  rw [rounds_succ]
  go_wp2_with (go_at_call 35; refine (ob2 _).mono ?_)
  rintro _ w4 ⟨rfl, hf2⟩
  have HF4 : Hid (Fr w w4) := Fr.trans HF3.out hf2
  clear hf2 ob2 HF3
  go_wp2_with fail
  have HA3 : Hid ((A2 ++ b2).data.toList = A2.data.toList ++ b2.data.toList) := data_append _ _
  have hz3 : (A2 ++ b2).size = 4 := by rw [ByteArray.size_append]; omega
  generalize A2 ++ b2 = A3 at *
  obtain ⟨b3, hb3⟩ : ∃ b : ByteArray, b = ⟨[UInt8.ofNat ((N : Int) / 4294967296 % 256).toNat].toArray⟩ := ⟨_, rfl⟩
  have ob3 := fun W => oneByte_int ((N : Int) / 4294967296 % 256) W (by omega) (by omega)
  rw [← hb3] at ob3
  have hs3 : b3.size = 1 := by rw [hb3]; rfl
  have HL3 : Hid (b3.data.toList = [UInt8.ofNat ((N : Int) / 4294967296 % 256).toNat]) := by unfold Hid; rw [hb3]
  have hq3 : A3.size + b3.size ≤ 9223372036854775807 := by omega
  clear hb3
  rw [rounds_succ]
  go_wp2_with (go_at_call 35; refine (ob3 _).mono ?_)
  rintro _ w5 ⟨rfl, hf3⟩
  have HF5 : Hid (Fr w w5) := Fr.trans HF4.out hf3
  clear hf3 ob3 HF4
  go_wp2_with fail
  have HA4 : Hid ((A3 ++ b3).data.toList = A3.data.toList ++ b3.data.toList) := data_append _ _
  have hz4 : (A3 ++ b3).size = 5 := by rw [ByteArray.size_append]; omega
  generalize A3 ++ b3 = A4 at *
  obtain ⟨b4, hb4⟩ : ∃ b : ByteArray, b = ⟨[UInt8.ofNat ((N : Int) / 16777216 % 256).toNat].toArray⟩ := ⟨_, rfl⟩
  have ob4 := fun W => oneByte_int ((N : Int) / 16777216 % 256) W (by omega) (by omega)
  rw [← hb4] at ob4
  have hs4 : b4.size = 1 := by rw [hb4]; rfl
  have HL4 : Hid (b4.data.toList = [UInt8.ofNat ((N : Int) / 16777216 % 256).toNat]) := by unfold Hid; rw [hb4]
  have hq4 : A4.size + b4.size ≤ 9223372036854775807 := by omega
  clear hb4
  rw [rounds_succ]
  go_wp2_with (go_at_call 35; refine (ob4 _).mono ?_)
  rintro _ w6 ⟨rfl, hf4⟩
  have HF6 : Hid (Fr w w6) := Fr.trans HF5.out hf4
  clear hf4 ob4 HF5
  go_wp2_with fail
  have HA5 : Hid ((A4 ++ b4).data.toList = A4.data.toList ++ b4.data.toList) := data_append _ _
  have hz5 : (A4 ++ b4).size = 6 := by rw [ByteArray.size_append]; omega
  generalize A4 ++ b4 = A5 at *
  obtain ⟨b5, hb5⟩ : ∃ b : ByteArray, b = ⟨[UInt8.ofNat ((N : Int) / 65536 % 256).toNat].toArray⟩ := ⟨_, rfl⟩
  have ob5 := fun W => oneByte_int ((N : Int) / 65536 % 256) W (by omega) (by omega)
  rw [← hb5] at ob5
  have hs5 : b5.size = 1 := by rw [hb5]; rfl
  have HL5 : Hid (b5.data.toList = [UInt8.ofNat ((N : Int) / 65536 % 256).toNat]) := by unfold Hid; rw [hb5]
  have hq5 : A5.size + b5.size ≤ 9223372036854775807 := by omega
  clear hb5
  rw [rounds_succ]
  go_wp2_with (go_at_call 35; refine (ob5 _).mono ?_)
  rintro _ w7 ⟨rfl, hf5⟩
  have HF7 : Hid (Fr w w7) := Fr.trans HF6.out hf5
  clear hf5 ob5 HF6
  go_wp2_with fail
  have HA6 : Hid ((A5 ++ b5).data.toList = A5.data.toList ++ b5.data.toList) := data_append _ _
  have hz6 : (A5 ++ b5).size = 7 := by rw [ByteArray.size_append]; omega
  generalize A5 ++ b5 = A6 at *
  obtain ⟨b6, hb6⟩ : ∃ b : ByteArray, b = ⟨[UInt8.ofNat ((N : Int) / 256 % 256).toNat].toArray⟩ := ⟨_, rfl⟩
  have ob6 := fun W => oneByte_int ((N : Int) / 256 % 256) W (by omega) (by omega)
  rw [← hb6] at ob6
  have hs6 : b6.size = 1 := by rw [hb6]; rfl
  have HL6 : Hid (b6.data.toList = [UInt8.ofNat ((N : Int) / 256 % 256).toNat]) := by unfold Hid; rw [hb6]
  have hq6 : A6.size + b6.size ≤ 9223372036854775807 := by omega
  clear hb6
  rw [rounds_succ]
  go_wp2_with (go_at_call 35; refine (ob6 _).mono ?_)
  rintro _ w8 ⟨rfl, hf6⟩
  have HF8 : Hid (Fr w w8) := Fr.trans HF7.out hf6
  clear hf6 ob6 HF7
  go_wp2_with fail
  have HA7 : Hid ((A6 ++ b6).data.toList = A6.data.toList ++ b6.data.toList) := data_append _ _
  have hz7 : (A6 ++ b6).size = 8 := by rw [ByteArray.size_append]; omega
  generalize A6 ++ b6 = A7 at *
  obtain ⟨b7, hb7⟩ : ∃ b : ByteArray, b = ⟨[UInt8.ofNat ((N : Int) % 256).toNat].toArray⟩ := ⟨_, rfl⟩
  have ob7 := fun W => oneByte_int ((N : Int) % 256) W (by omega) (by omega)
  rw [← hb7] at ob7
  have hs7 : b7.size = 1 := by rw [hb7]; rfl
  have HL7 : Hid (b7.data.toList = [UInt8.ofNat ((N : Int) % 256).toNat]) := by unfold Hid; rw [hb7]
  have hq7 : A7.size + b7.size ≤ 9223372036854775807 := by omega
  clear hb7
  rw [rounds_succ]
  go_wp2_with (go_at_call 35; refine (ob7 _).mono ?_)
  rintro _ w9 ⟨rfl, hf7⟩
  have HF9 : Hid (Fr w w9) := Fr.trans HF8.out hf7
  clear hf7 ob7 HF8
  go_wp2_with fail
  have HA8 : Hid ((A7 ++ b7).data.toList = A7.data.toList ++ b7.data.toList) := data_append _ _
  have hz8 : (A7 ++ b7).size = 9 := by rw [ByteArray.size_append]; omega
  generalize A7 ++ b7 = A8 at *
  rw [rounds_succ]
  go_wp2_with fail
  go_ret
  refine ⟨ret_ba ?_, HF9.out⟩
  apply ByteArray.ext
  apply Array.ext'
  show A8.data.toList = KM.kb ⟨1, n, s⟩
  have hkb : KM.kb ⟨1, n, s⟩ = 16 :: KM.be 8 (KM.turn n) := rfl
  rw [hkb, be8]
  rw [HA8.out, HA7.out, HA6.out, HA5.out, HA4.out, HA3.out, HA2.out, HA1.out, HA0.out, HL0.out, HL1.out, HL2.out, HL3.out, HL4.out, HL5.out, HL6.out, HL7.out]
  have hT : ((KM.turn n : Nat) : Int) = n + 9223372036854775808 := by unfold KM.turn; omega
  generalize KM.turn n = T at *
  have e0 : (((N : Int) / 72057594037927936 + 128) % 256).toNat = T / 72057594037927936 := by omega
  have e1 : ((N : Int) / 281474976710656 % 256).toNat = T % 72057594037927936 / 281474976710656 := by omega
  have e2 : ((N : Int) / 1099511627776 % 256).toNat = T % 72057594037927936 % 281474976710656 / 1099511627776 := by omega
  have e3 : ((N : Int) / 4294967296 % 256).toNat = T % 72057594037927936 % 281474976710656 % 1099511627776 / 4294967296 := by omega
  have e4 : ((N : Int) / 16777216 % 256).toNat = T % 72057594037927936 % 281474976710656 % 1099511627776 % 4294967296 / 16777216 := by omega
  have e5 : ((N : Int) / 65536 % 256).toNat = T % 72057594037927936 % 281474976710656 % 1099511627776 % 4294967296 % 16777216 / 65536 := by omega
  have e6 : ((N : Int) / 256 % 256).toNat = T % 72057594037927936 % 281474976710656 % 1099511627776 % 4294967296 % 16777216 % 65536 / 256 := by omega
  have e7 : ((N : Int) % 256).toNat = T % 72057594037927936 % 281474976710656 % 1099511627776 % 4294967296 % 16777216 % 65536 % 256 / 1 := by omega
  rw [e0, e1, e2, e3, e4, e5, e6, e7]
  rfl
end Go.Proofs.Ytpalikdnpchdeaa
