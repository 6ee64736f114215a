/-
  The reader of package record: numbers and texts of keys.
-/
import Derived.Test.YtpalikdnpchdeaaRdRow
import Derived.Test.YtpalikdnpchdeaaRecKey
import Derived.Test.YtpalikdnpchdeaaKRMath
namespace Go.Proofs.Ytpalikdnpchdeaa
open Go.ChangeShapes Go.WideShapes Go.ChangeAt Go.RowKit
set_option linter.unusedVariables false
set_option linter.unusedSimpArgs false

theorem turn_back (u : Nat) (h : u < 18446744073709551616) : wrap64 (bits .xor .u64 (u : Int) 9223372036854775808) = (u : Int) - 9223372036854775808 := by
  have e : bits .xor .u64 (u : Int) 9223372036854775808 = (((u + 2 ^ 63) % 2 ^ 64 : Nat) : Int) := by
    show IntKind.u64.wrap ((BitVec.ofInt 64 (u : Int) ^^^ BitVec.ofInt 64 9223372036854775808).toNat : Int) = _
    have e1 : (BitVec.ofInt 64 9223372036854775808).toNat = 2 ^ 63 := by decide
    have e2 : (BitVec.ofInt 64 (u : Int)).toNat = u := by
      rw [BitVec.toNat_ofInt]
      omega
    rw [BitVec.toNat_xor, e1, e2, xor_top _ (by omega), IntKind.wrap_u64]
    omega
  rw [e]
  simp only [wrap64]
  omega

set_option maxRecDepth 100000 in
set_option maxHeartbeats 1000000 in
theorem keyInt_any (r : Nat) (l : List UInt8) (w : World) (h : RdAt w r l) (hl : l.length ≤ 9223372036854775807) :
    Calls Try.prog 76 #[.pointer (some ⟨r, 0, none⟩)] w (Gv r w (KR.ki l) fun n e _ => e = .returned (.int .i64 n)) := by
  have ht := take_any r 8 1 l w h hl (by decide)
  have HS : Hid _ := h.set (l.drop 8)
  unfold KR.ki
  clear h
  by_cases h8 : l.length < 8
  · rw [if_pos h8]
    go_enter Try.func76, Try.ntmps76
    go_wp2_with (go_at_call 70; refine ht.mono ?_)
    rintro e w1 (⟨_, rfl, rfl⟩ | ⟨h1, _⟩)
    · go_wp2_with fail
      exact ⟨rfl, rfl, Mv.refl _ _⟩
    · omega
  · rw [if_neg h8]
    go_enter Try.func76, Try.ntmps76
    go_wp2_with (go_at_call 70; refine ht.mono ?_)
    rintro e w1 (⟨h1, _⟩ | ⟨_, rfl, hw1⟩)
    · omega
    · rw [← hw1] at HS
      have HM : Hid (Mv r w w1) := by rw [hw1]; exact (Mv.refl _ _).set 0 _
      have hsz : (⟨(l.take 8).toArray⟩ : ByteArray).size = 8 := by rw [mk_size]; simp; omega
      have hdl : (⟨(l.take 8).toArray⟩ : ByteArray).data.toList = l.take 8 := by simp
      generalize (⟨(l.take 8).toArray⟩ : ByteArray) = s at *
      have HDL : Hid _ := hdl
      clear ht hw1 hdl
      go_wp2_with fail
      go_loop [4, 8] (fun tv iv => ∃ i : Nat, i ≤ 8 ∧ iv = .int .i64 i ∧ tv = .int .u64 (KR.bv (s.data.toList.take i) : Nat)) (fun _ iv => 8 - (intOf iv).toNat)
      case atStart => exact ⟨0, by omega, rfl, rfl⟩
      case round =>
        obtain ⟨i, hi, rfl, rfl⟩ := hrel
        have hlen : (s.data.toList.take i).length = i := by rw [List.length_take, Array.length_toList]; show min i s.size = i; omega
        have hb := KR.bv_lt (s.data.toList.take i)
        rw [hlen] at hb
        by_cases hlt : i < 8
        · have hlt2 : i < s.size := by omega
          have hst : KR.bv (s.data.toList.take (i + 1)) = KR.bv (s.data.toList.take i) * 256 + s[i].toNat := by rw [take_snoc s i hlt2, KR.bv_snoc]
          have hb2 := s[i].toNat_lt
          have hp : 256 ^ (i + 1) ≤ 18446744073709551616 := Nat.le_trans (Nat.pow_le_pow_right (by decide) (show i + 1 ≤ 8 by omega)) (by decide)
          rw [Nat.pow_succ] at hp
          have HST : Hid _ := hst
          clear hst
          generalize KR.bv (s.data.toList.take i) = u at *
          have hu : u * 256 + 255 < 18446744073709551616 := by omega
          clear hp hb
          go_wp2_with fail
          go_round
          case rel => exact ⟨i + 1, by omega, by go_num, by rw [HST.out]; go_num⟩
          case measure => simp [intOf]; omega
        · obtain rfl : i = 8 := by omega
          have hfull : s.data.toList.take 8 = s.data.toList := List.take_of_length_le (by rw [Array.length_toList]; show s.size ≤ 8; omega)
          rw [hfull] at hb ⊢
          have hb' : KR.bv s.data.toList < 18446744073709551616 := hb
          have htb := turn_back _ hb'
          have HTB : Hid _ := htb
          generalize hgu : KR.bv s.data.toList = u at *
          have HGU : Hid _ := hgu
          clear hfull hb htb hgu
          go_wp2_with fail
          go_ret
          refine ⟨?_, HS.out, HM.out⟩
          rw [← HDL.out, HGU.out, ← HTB.out]
          rfl
end Go.Proofs.Ytpalikdnpchdeaa
