/-
  What More, Of, Less and the two small helpers of package sum answer, for every argument.
-/
import Derived.Test.YtfjdialbjbomdaaDoorBase
import Derived.Test.YtfjdialbjbomdaaDoorSumMath
namespace Go.Proofs.YtfjdialbjbomdaaDoor
open Go.ChangeShapes Go.WideShapes Go.ChangeAt Go.RowKit
set_option linter.unusedVariables false

theorem take_snoc8 (s : ByteArray) (k : Nat) (h : k < s.size) : s.data.toList.take (k + 1) = s.data.toList.take k ++ [s[k]] := by
  rw [List.take_succ_eq_append_getElem (by simpa using h)]; rfl

theorem xorP (x : Nat) (h : x < 4294967296) : bits .xor .u32 ((x : Int) / 2) 2197175160 = (((x / 2) ^^^ SM.P : Nat) : Int) := by
  have h1 := u32_xor_nat (x / 2) SM.P (by omega) SM.P_lt
  rw [show ((x / 2 : Nat) : Int) = (x : Int) / 2 by omega] at h1
  exact h1
theorem xorQ (x : Nat) (h : x < 4294967296) : bits .xor .u32 (x : Int) 2197175160 = ((x ^^^ SM.P : Nat) : Int) := u32_xor_nat x SM.P h SM.P_lt
theorem turned32 (x : Nat) (h : x < 4294967296) : bits .xor .u32 IntKind.u32.max (x : Int) = ((SM.nt x : Nat) : Int) := by
  have h1 := u32_xor_nat 4294967295 x (by decide) h
  have e : IntKind.u32.max = ((4294967295 : Nat) : Int) := by decide
  rw [e, h1, SM.nt]

theorem xor8 (x : Nat) (b : UInt8) (h : x < 4294967296) : bits .xor .u32 (x : Int) ((b.toNat : Int) % 4294967296) = ((x ^^^ b.toNat : Nat) : Int) := by
  have hb := b.toNat_lt
  rw [Int.emod_eq_of_lt (by omega) (by omega)]
  exact u32_xor_nat x b.toNat h (SM.byte_lt b)

set_option maxRecDepth 100000 in
set_option maxHeartbeats 1000000 in
theorem ez_any (r : Nat) (w : World) (hr : r < 4294967296) :
    Calls Tryd.prog 42 #[.int .u32 (r : Int)] w fun e w' => e = .returned (.int .u32 ((SM.ez r : Nat) : Int)) ∧ w' = w := by
  go_enter Tryd.func42, Tryd.ntmps42
  go_wp2
  go_loop [0, 4] (fun v i => ∃ k x : Nat, k ≤ 8 ∧ i = .int .i64 k ∧ v = .int .u32 (x : Int) ∧ x < 4294967296 ∧ SM.steps (8 - k) x = SM.ez r) (fun _ i => 8 - (intOf i).toNat)
  case atStart => exact ⟨0, r, by omega, rfl, rfl, hr, rfl⟩
  case round =>
    obtain ⟨k, x, hk, rfl, rfl, hx, hs⟩ := hrel
    by_cases hlt : k < 8
    · have hs' : SM.steps (8 - (k + 1)) (SM.step x) = SM.ez r := by rw [← hs, show 8 - k = 8 - (k + 1) + 1 by omega]; rfl
      have HS : Hid _ := hs'
      have HL : Hid _ := SM.step_lt hx
      clear hs hs'
      by_cases ho : x % 2 = 1
      · have ho' : ((x : Int) % 2 == 1) = true := by rw [beq_iff_eq]; omega
        have HV : Hid _ := xorP x hx
        have HE : Hid (SM.step x = (x / 2) ^^^ SM.P) := if_pos ho
        clear ho
        go_wp2
        go_round
        case rel => exact ⟨k + 1, SM.step x, by omega, by go_num, by rw [HV.out, HE.out], HL.out, HS.out⟩
        case measure => simp [intOf]; omega
      · have ho' : ((x : Int) % 2 == 1) = false := by rw [beq_eq_false_iff_ne]; omega
        have HE : Hid (SM.step x = x / 2) := if_neg ho
        clear ho
        go_wp2
        go_round
        case rel => exact ⟨k + 1, SM.step x, by omega, by go_num, by rw [HE.out]; go_num, HL.out, HS.out⟩
        case measure => simp [intOf]; omega
    · have h8 : k = 8 := by omega
      subst h8
      have HS : Hid (x = SM.ez r) := hs
      clear hs
      go_wp2
      go_ret
      exact ⟨ret_int (by rw [← HS.out]), rfl⟩

set_option maxRecDepth 100000 in
set_option maxHeartbeats 1000000 in
theorem more_any (c : Nat) (s : ByteArray) (w : World) (hc : c < 4294967296) (hs : s.size ≤ maxLen) :
    Calls Tryd.prog 35 #[.int .u32 (c : Int), .string s] w fun e w' => e = .returned (.int .u32 ((SM.more c s.data.toList : Nat) : Int)) ∧ w' = w := by
  unfold maxLen at hs
  have hn := turned32 c hc
  have HN : Hid _ := SM.nt_lt hc
  go_enter Tryd.func35, Tryd.ntmps35
  go_wp2
  go_loop [5, 11] (fun v i => ∃ k : Nat, k ≤ s.size ∧ i = .int .i64 k ∧ v = .int .u32 ((SM.run (SM.nt c) (s.data.toList.take k) : Nat) : Int)) (fun _ i => s.size - (intOf i).toNat)
  case atStart => exact ⟨0, Nat.zero_le _, rfl, rfl⟩
  case round =>
    obtain ⟨k, hk, rfl, rfl⟩ := hrel
    have hx := SM.run_lt HN.out (s.data.toList.take k)
    by_cases hlt : k < s.size
    · have HR : Hid (SM.run (SM.nt c) (s.data.toList.take (k + 1)) = SM.ez (SM.run (SM.nt c) (s.data.toList.take k) ^^^ s[k].toNat)) := by
        unfold Hid; rw [take_snoc8 s k hlt, SM.run_snoc]
      obtain ⟨x, hxe⟩ : ∃ x, x = SM.run (SM.nt c) (s.data.toList.take k) := ⟨_, rfl⟩
      rw [← hxe] at hx HR ⊢
      have HX : Hid _ := hxe
      clear hxe hn
      have hv := xor8 x s[k] hx
      have HB : Hid _ := SM.xor_lt hx (SM.byte_lt s[k])
      go_wp2_with (go_at_call 42; refine (ez_any _ _ HB.out).mono ?_; rintro e w' ⟨rfl, rfl⟩)
      go_round
      case rel => exact ⟨k + 1, by omega, by go_num, by rw [HR.out]⟩
      case measure => simp [intOf]; omega
    · have HF : Hid (SM.nt (SM.run (SM.nt c) (s.data.toList.take k)) = SM.more c s.data.toList) := by
        unfold Hid SM.more; rw [List.take_of_length_le (by simp; omega)]
      obtain ⟨x, hxe⟩ : ∃ x, x = SM.run (SM.nt c) (s.data.toList.take k) := ⟨_, rfl⟩
      rw [← hxe] at hx HF ⊢
      have HX : Hid _ := hxe
      clear hxe hn
      have hv := turned32 x hx
      go_wp2
      go_ret
      exact ⟨ret_int (by rw [HF.out]), rfl⟩

set_option maxRecDepth 100000 in
theorem of_any (s : ByteArray) (w : World) (hs : s.size ≤ maxLen) :
    Calls Tryd.prog 26 #[.string s] w fun e w' => e = .returned (.int .u32 ((SM.more 0 s.data.toList : Nat) : Int)) ∧ w' = w := by
  go_enter Tryd.func26, Tryd.ntmps26
  go_wp2_with (go_at_call 35; refine (more_any 0 _ _ (by decide) hs).mono ?_; rintro e w' ⟨rfl, rfl⟩)
  go_ret
  exact ⟨rfl, rfl⟩

end Go.Proofs.YtfjdialbjbomdaaDoor
