/-
  What Read of package num answers, for every text: the number with which it begins, how many bytes it has, and the error.
-/
import Derived.Test.YthpcdhnaibpjnaaBase
import Derived.Test.YthpcdhnaibpjnaaNumMath
namespace Go.Proofs.Ythpcdhnaibpjnaa
open Go.ChangeShapes Go.WideShapes Go.ChangeAt Go.RowKit
set_option linter.unusedVariables false

theorem take_snoc (s : ByteArray) (k : Nat) (h : k < s.size) : s.data.toList.take (k + 1) = s.data.toList.take k ++ [s[k]] := by
  rw [List.take_succ_eq_append_getElem (by simpa using h)]; rfl
theorem drop_cons (s : ByteArray) (k : Nat) (h : k < s.size) : s.data.toList.drop k = s[k] :: s.data.toList.drop (k + 1) := by
  rw [List.drop_eq_getElem_cons (by simpa using h)]; rfl

def rdv (s : ByteArray) : Value := .tuple #[.int .u64 (NM.rd s.data.toList 0 0).1, .int .i64 (NM.rd s.data.toList 0 0).2.1, .int .i64 (NM.rd s.data.toList 0 0).2.2]

theorem pow7 (k : Nat) : 2 ^ (7 * k) = 128 ^ k := by rw [Nat.pow_mul]
theorem pow9 {k : Nat} (h : k ≤ 9) : 128 ^ k ≤ 9223372036854775808 := Nat.le_trans (Nat.pow_le_pow_right (by decide) h) (by decide)
theorem pow8 {k : Nat} (h : k < 9) : 128 ^ k ≤ 72057594037927936 := Nat.le_trans (Nat.pow_le_pow_right (by decide) (show k ≤ 8 by omega)) (by decide)

theorem val_step (s : ByteArray) (k : Nat) (h : k < s.size) : NM.val (s.data.toList.take (k + 1)) = NM.val (s.data.toList.take k) + s[k].toNat % 128 * 128 ^ k := by
  rw [take_snoc s k h, NM.val_snoc, List.length_take, Nat.min_eq_left (by simp; omega)]

theorem val_bd (s : ByteArray) (k : Nat) : NM.val (s.data.toList.take k) < 128 ^ k := by
  refine Nat.lt_of_lt_of_le (NM.val_lt _) (Nat.pow_le_pow_right (by decide) ?_)
  exact List.length_take_le _ _

/-- one digit more: nothing runs over -/
theorem acc_step (s : ByteArray) (k : Nat) (h : k < s.size) (h9 : k ≤ 9) (hd : k = 9 → s[k].toNat ≤ 1) :
    IntKind.u64.wrap (((NM.val (s.data.toList.take k) : Nat) : Int) + IntKind.u64.wrap ((s[k].toNat : Int) % 128 * 2 ^ (7 * k))) = ((NM.val (s.data.toList.take (k + 1)) : Nat) : Int) := by
  rw [val_step s k h]
  have hv := val_bd s k
  have e : (s[k].toNat : Int) % 128 * 2 ^ (7 * k) = ((s[k].toNat % 128 * 128 ^ k : Nat) : Int) := by
    rw [← pow7]; push_cast; rfl
  rw [e, IntKind.wrap_u64, IntKind.wrap_u64]
  have hm : s[k].toNat % 128 * 128 ^ k + NM.val (s.data.toList.take k) < 18446744073709551616 := by
    by_cases c : k = 9
    · have h1 := hd c
      have := Nat.mul_le_mul_right (128 ^ k) (show s[k].toNat % 128 ≤ 1 by omega)
      have p9 := pow9 h9
      omega
    · have := Nat.mul_le_mul_right (128 ^ k) (show s[k].toNat % 128 ≤ 127 by omega)
      have p8 := pow8 (show k < 9 by omega)
      omega
  omega

theorem rdv_of {s : ByteArray} {a b c : Int} {n k e : Nat} (h : NM.rd s.data.toList 0 0 = (n, k, e)) (ha : a = n) (hb : b = k) (hc : c = e) :
    Ending.returned (.tuple #[.int .u64 a, .int .i64 b, .int .i64 c]) = .returned (rdv s) := by
  subst ha hb hc
  unfold rdv
  rw [h]

set_option maxRecDepth 100000 in
set_option maxHeartbeats 1000000 in
theorem read_any (s : ByteArray) (w : World) (hs : s.size ≤ maxLen) :
    Calls Try.prog 22 #[.string s] w fun e w' => e = .returned (rdv s) ∧ w' = w := by
  unfold maxLen at hs
  go_enter Try.func22, Try.ntmps22
  go_wp2
  go_loop [5, 10] (fun n i => ∃ k : Nat, k ≤ s.size ∧ k ≤ 9 ∧ i = .int .i64 k ∧ n = .int .u64 (NM.val (s.data.toList.take k)) ∧ NM.rd s.data.toList 0 0 = NM.rd (s.data.toList.drop k) k (NM.val (s.data.toList.take k))) (fun _ i => s.size - (intOf i).toNat)
  case atStart => exact ⟨0, Nat.zero_le _, Nat.zero_le _, rfl, rfl, rfl⟩
  case round =>
    obtain ⟨k, hk, hk9, rfl, rfl, hr0⟩ := hrel
    by_cases hlt : k < s.size
    · rw [drop_cons s k hlt] at hr0
      simp only [NM.rd] at hr0
      have HR : Hid _ := hr0
      clear hr0
      have HA : Hid _ := acc_step s k hlt hk9
      have HV : Hid _ := val_step s k hlt
      have hb0 : (s[k].toNat : Int) < 256 := by have := s[k].toNat_lt; omega
      by_cases h9 : k = 9 ∧ 1 < s[k].toNat
      · have HF : Hid _ := HR.out.trans (if_pos h9)
        obtain ⟨h9a, h9b⟩ := h9
        clear HR HA HV
        have hne : ((k : Int) == 9) = true := by simp; omega
        have hb' : (1 : Int) < (s[k].toNat : Int) := by omega
        have Hk : Hid (k = 9) := h9a
        clear h9a
        go_wp2
        go_ret3
        exact ⟨rdv_of HF.out rfl rfl rfl, rfl⟩
      · have HR1 : Hid _ := HR.out.trans (if_neg h9)
        have HA1 : Hid _ := HA.out (by omega)
        clear HR HA
        by_cases hb : 128 ≤ s[k].toNat
        · have hb' : (128 : Int) ≤ (s[k].toNat : Int) := by omega
          have hk8 : k < 9 := by omega
          have hne : ((k : Int) == 9) = false := by simp; omega
          have HF : Hid _ := HR1.out.trans (if_pos hb)
          clear h9 HR1
          go_wp2
          go_round
          case rel => exact ⟨k + 1, by omega, by omega, by go_num, by rw [HA1.out], by rw [HF.out, HV.out]⟩
          case measure => simp [intOf]; omega
        · have HR2 : Hid _ := HR1.out.trans (if_neg hb)
          clear HR1
          have hb' : (s[k].toNat : Int) < 128 := by omega
          by_cases hz : s[k].toNat = 0 ∧ 0 < k
          · have HF : Hid _ := HR2.out.trans (if_pos hz)
            obtain ⟨hz1, hz2⟩ := hz
            have hz1' : ((s[k].toNat : Int) == 0) = true := by simp [hz1]
            have hz2' : (0 : Int) < (k : Int) := by omega
            have hz3 : ¬ (1 : Int) < (s[k].toNat : Int) := by omega
            have Hz : Hid _ := hz1
            clear hz1 HR2 h9
            by_cases h9 : k = 9
            · have hne : ((k : Int) == 9) = true := by simp; omega
              have Hk : Hid (k = 9) := h9
              clear h9
              go_wp2
              go_ret3
              exact ⟨rdv_of HF.out rfl rfl rfl, rfl⟩
            · have hne : ((k : Int) == 9) = false := by simp; omega
              go_wp2
              go_ret3
              exact ⟨rdv_of HF.out rfl rfl rfl, rfl⟩
          · have HF : Hid _ := HR2.out.trans (if_neg hz)
            clear HR2
            have HF1 : Hid _ := HF.out.trans (by rw [← HV.out])
            clear HF
            by_cases h9' : k = 9
            · have hne : ((k : Int) == 9) = true := by simp; omega
              have hz3 : ¬ (1 : Int) < (s[k].toNat : Int) := by omega
              have hz1' : ((s[k].toNat : Int) == 0) = false := by simp; omega
              have Hk : Hid (k = 9) := h9'
              clear h9' h9 hz
              go_wp2
              go_ret3
              exact ⟨rdv_of HF1.out HA1.out (by push_cast; rfl) rfl, rfl⟩
            · have hne : ((k : Int) == 9) = false := by simp; omega
              by_cases hz0 : s[k].toNat = 0
              · have hz1' : ((s[k].toNat : Int) == 0) = true := by simp [hz0]
                have hz2' : ¬ (0 : Int) < (k : Int) := by omega
                have Hz : Hid _ := hz0
                clear hz0 h9 hz
                go_wp2
                go_ret3
                exact ⟨rdv_of HF1.out HA1.out (by push_cast; rfl) rfl, rfl⟩
              · have hz1' : ((s[k].toNat : Int) == 0) = false := by simp; omega
                clear h9 hz
                go_wp2
                go_ret3
                exact ⟨rdv_of HF1.out HA1.out (by push_cast; rfl) rfl, rfl⟩
    · rw [List.drop_of_length_le (by simp; omega)] at hr0
      simp only [NM.rd] at hr0
      have HR : Hid _ := hr0
      clear hr0
      go_wp2
      go_ret3
      exact ⟨rdv_of HR.out rfl rfl rfl, rfl⟩
end Go.Proofs.Ythpcdhnaibpjnaa
