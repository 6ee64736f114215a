/-
  What the document's own NumOf and SignedOf come to: the same reading as the program's, for every text.
-/
import Derived.Test.YthpcdhnaibpjnaaRefNum
namespace Go.Proofs.Ythpcdhnaibpjnaa
open Go.ChangeShapes Go.WideShapes Go.ChangeAt Go.RowKit
set_option linter.unusedVariables false

/-- the first k bytes are all from 128 on -/
def Lead (s : ByteArray) (k : Nat) : Prop := ∀ b ∈ s.data.toList.take k, 128 ≤ b.toNat
theorem Lead.zero (s : ByteArray) : Lead s 0 := by intro b hb; simp at hb
theorem Lead.succ {s : ByteArray} {k : Nat} (h : Lead s k) (hk : k < s.size) (hb : 128 ≤ s[k].toNat) : Lead s (k + 1) := by
  intro b hm
  rw [take_snoc s k hk] at hm
  rcases List.mem_append.1 hm with h1 | h1
  · exact h b h1
  · rw [List.mem_singleton] at h1; subst h1; exact hb

theorem lead_rd {s : ByteArray} {k : Nat} (h : Lead s k) (hk : k ≤ 9) (hs : k ≤ s.size) :
    NM.rd s.data.toList 0 0 = NM.rd (s.data.toList.drop k) k (NM.val (s.data.toList.take k)) := by
  have h1 := NM.rd_skip (s.data.toList.take k) (s.data.toList.drop k) 0 0 h (by have := List.length_take_le k s.data.toList; omega)
  have hl : (s.data.toList.take k).length = k := by rw [List.length_take]; exact Nat.min_eq_left (by simpa using hs)
  rw [List.take_append_drop, hl] at h1
  simpa using h1

theorem lead_ten {s : ByteArray} (h : Lead s 10) (hs : 10 ≤ s.size) : NM.rd s.data.toList 0 0 = (0, 0, 2) := by
  have h9 : Lead s 9 := by
    intro b hb
    refine h b ?_
    rw [take_snoc s 9 (by omega)]
    exact List.mem_append_left _ hb
  have hb : 128 ≤ s[9].toNat := by
    refine h _ ?_
    rw [take_snoc s 9 (by omega)]
    simp
  rw [lead_rd h9 (by omega) (by omega), drop_cons s 9 (by omega)]
  simp only [NM.rd]
  rw [if_pos ⟨trivial, by omega⟩]

theorem lead_end {s : ByteArray} {k : Nat} (h : Lead s k) (hk : k ≤ 9) (hs : k = s.size) : NM.rd s.data.toList 0 0 = (0, 0, 5) := by
  rw [lead_rd h hk (by omega), List.drop_of_length_le (by simp; omega)]
  rfl

theorem lead_last {s : ByteArray} {k : Nat} (h : Lead s k) (hk : k ≤ 9) (hs : k < s.size) :
    NM.rd s.data.toList 0 0 = (if k = 9 ∧ 1 < s[k].toNat then (0, 0, 2) else if 128 ≤ s[k].toNat then NM.rd (s.data.toList.drop (k + 1)) (k + 1) (NM.val (s.data.toList.take (k + 1))) else if s[k].toNat = 0 ∧ 0 < k then (0, 0, 1) else (NM.val (s.data.toList.take (k + 1)), k + 1, 0)) := by
  rw [lead_rd h hk (by omega), drop_cons s k hs, val_step s k hs]
  simp only [NM.rd]

theorem val_drop (L : List UInt8) : ∀ j, NM.val (L.drop j) * 128 ^ j ≤ NM.val L := by
  induction L with
  | nil => intro j; simp [NM.val]
  | cons b r ih =>
    intro j
    cases j with
    | zero => simp
    | succ j =>
      have := ih j
      simp only [List.drop_succ_cons, NM.val, Nat.pow_succ]
      rw [← Nat.mul_assoc, Nat.mul_comm _ 128]
      omega
theorem val_drop_le (L : List UInt8) (j : Nat) : NM.val (L.drop j) ≤ NM.val L :=
  Nat.le_trans (Nat.le_mul_of_pos_right _ (Nat.pow_pos (by decide))) (val_drop L j)

theorem val_small {s : ByteArray} {k : Nat} (hs : k < s.size) (hk : k ≤ 9) (h9 : ¬ (k = 9 ∧ 1 < s[k].toNat)) : NM.val (s.data.toList.take (k + 1)) < 18446744073709551616 := by
  have h := acc_step s k hs hk (by omega)
  have : (IntKind.u64.wrap (((NM.val (s.data.toList.take k) : Nat) : Int) + IntKind.u64.wrap ((s[k].toNat : Int) % 128 * 2 ^ (7 * k)))) < 18446744073709551616 := by rw [IntKind.wrap_u64]; omega
  omega

/-- one step of the value from its top digit down -/
theorem val_down {s : ByteArray} {k j : Nat} (hs : k < s.size) (hj : j ≤ k) :
    NM.val ((s.data.toList.take (k + 1)).drop j) = s[j].toNat % 128 + 128 * NM.val ((s.data.toList.take (k + 1)).drop (j + 1)) := by
  rw [List.drop_eq_getElem_cons (by rw [List.length_take]; simp; omega)]
  simp only [NM.val, List.getElem_take]
  rfl

theorem down_step {s : ByteArray} {k i : Nat} (hs : k < s.size) (hi : i ≤ k) (hv : NM.val (s.data.toList.take (k + 1)) < 18446744073709551616) (hi2 : i < s.size) :
    IntKind.u64.wrap (IntKind.u64.wrap (((NM.val ((s.data.toList.take (k + 1)).drop (i + 1)) : Nat) : Int) * 128) + (s[i].toNat : Int) % 128) = ((NM.val ((s.data.toList.take (k + 1)).drop i) : Nat) : Int) := by
  have h1 := val_down (s := s) hs hi
  have h2 := val_drop_le (s.data.toList.take (k + 1)) i
  rw [IntKind.wrap_u64, IntKind.wrap_u64]
  omega

set_option maxRecDepth 100000 in
set_option maxHeartbeats 4000000 in
theorem numOf_any (s : ByteArray) (w : World) (hs : s.size ≤ maxLen) :
    Calls Try.prog 29 #[.string s] w fun e w' => e = .returned (rdv s) ∧ w' = w := by
  unfold maxLen at hs
  go_enter Try.func29, Try.ntmps29
  go_wp2
  go_loop [5] (fun i => ∃ k : Nat, k ≤ s.size ∧ k ≤ 10 ∧ i = .int .i64 k ∧ Lead s k) (fun i => s.size - (intOf i).toNat)
  case atStart => exact ⟨0, Nat.zero_le _, Nat.zero_le _, rfl, Lead.zero s⟩
  case round =>
    obtain ⟨k, hk, hk10, rfl, hl⟩ := hrel
    by_cases h10 : k = 10
    · have HF : Hid _ := lead_ten (h10 ▸ hl) (by omega)
      have c1 : ¬ (k : Int) < 10 := by omega
      have c2 : ((k : Int) == 10) = true := by simp [h10]
      have Hk : Hid _ := h10
      clear h10
      by_cases hlt : k < s.size
      · go_wp2
        go_ret3
        exact ⟨rdv_of HF.out rfl rfl rfl, rfl⟩
      · have hlt' : ¬ (k : Int) < (s.size : Int) := by omega
        go_wp2
        go_ret3
        exact ⟨rdv_of HF.out rfl rfl rfl, rfl⟩
    · have c1 : (k : Int) < 10 := by omega
      have c2 : ((k : Int) == 10) = false := by simp; omega
      by_cases hlt : k < s.size
      · by_cases hb : 128 ≤ s[k].toNat
        · have hb' : (128 : Int) ≤ (s[k].toNat : Int) := by omega
          have HL : Hid _ := hl.succ hlt hb
          clear hl
          go_wp2
          go_round
          case rel => exact ⟨k + 1, by omega, by omega, by go_num, HL.out⟩
          case measure => simp [intOf]; omega
        · have hb' : ¬ (128 : Int) ≤ (s[k].toNat : Int) := by omega
          have hll := lead_last hl (by omega) hlt
          have cl : ((k : Int) == (s.size : Int)) = false := by simp; omega
          by_cases h9 : k = 9 ∧ 1 < s[k].toNat
          · rw [if_pos h9] at hll
            have HF : Hid _ := hll
            have d1 : ((k : Int) == 9) = true := by simp [h9.1]
            have d2 : (1 : Int) < (s[k].toNat : Int) := by omega
            have Hk : Hid _ := h9
            clear hll h9 h10 hb
            go_wp2
            go_ret3
            exact ⟨rdv_of HF.out rfl rfl rfl, rfl⟩
          · rw [if_neg h9, if_neg hb] at hll
            have HV : Hid _ := val_small hlt (by omega) h9
            by_cases hz : s[k].toNat = 0 ∧ 0 < k
            · rw [if_pos hz] at hll
              have HF : Hid _ := hll
              have e1 : ((s[k].toNat : Int) == 0) = true := by simp [hz.1]
              have e2 : (0 : Int) < (k : Int) := by omega
              have d2 : ¬ (1 : Int) < (s[k].toNat : Int) := by omega
              have Hz : Hid _ := hz
              clear hll hz
              by_cases h9' : k = 9
              · have d1 : ((k : Int) == 9) = true := by simp [h9']
                have Hk : Hid _ := h9'
                clear h9' h9 h10
                go_wp2
                go_ret3
                exact ⟨rdv_of HF.out rfl rfl rfl, rfl⟩
              · have d1 : ((k : Int) == 9) = false := by simp; omega
                clear h9 h10
                go_wp2
                go_ret3
                exact ⟨rdv_of HF.out rfl rfl rfl, rfl⟩
            · rw [if_neg hz] at hll
              have HF : Hid _ := hll
              clear hll
              have HS : Hid _ := fun i (hi : i ≤ k) (hi2 : i < s.size) => down_step (s := s) hlt hi HV.out hi2
              have HT : Hid ((s.data.toList.take (k + 1)).drop (k + 1) = []) := List.drop_of_length_le (List.length_take_le _ _)
              rcases (show (((k : Int) == 9) = true ∧ ¬ (1 : Int) < (s[k].toNat : Int) ∧ ((s[k].toNat : Int) == 0) = false) ∨ (((k : Int) == 9) = false ∧ ((s[k].toNat : Int) == 0) = true ∧ ¬ (0 : Int) < (k : Int)) ∨ (((k : Int) == 9) = false ∧ ((s[k].toNat : Int) == 0) = false ∧ (0 : Int) ≤ 0) from by
                simp only [beq_iff_eq, beq_eq_false_iff_ne]; omega) with ⟨d1, d2, d3⟩ | ⟨d1, d2, d3⟩ | ⟨d1, d2, d3⟩
              all_goals
                clear hz h9 h10 hb hl
                go_wp2
                go_loop [6, 7] (fun n i => ∃ j : Nat, j ≤ k + 1 ∧ i = .int .i64 ((j : Int) - 1) ∧ n = .int .u64 ((NM.val ((s.data.toList.take (k + 1)).drop j) : Nat) : Int)) (fun _ i => (intOf i + 1).toNat)
                case atStart => exact ⟨k + 1, Nat.le_refl _, by go_num, by rw [HT.out]; rfl⟩
                case round =>
                  obtain ⟨j, hj, rfl, rfl⟩ := hrel
                  by_cases hj0 : j = 0
                  · subst hj0
                    go_wp2
                    go_ret3
                    exact ⟨rdv_of HF.out rfl (by push_cast; rfl) rfl, rfl⟩
                  · obtain ⟨i, rfl⟩ : ∃ i, j = i + 1 := ⟨j - 1, by omega⟩
                    have hi : (i : Int) < (s.size : Int) := by omega
                    go_wp2
                    go_round
                    case rel => exact ⟨i, by omega, rfl, by rw [HS.out i (by omega) (by omega)]⟩
                    case measure => simp [intOf]
      · have hlt' : ¬ (k : Int) < (s.size : Int) := by omega
        have HF : Hid _ := lead_end hl (by omega) (by omega)
        have cl : ((k : Int) == (s.size : Int)) = true := by simp; omega
        by_cases h9' : k = 9
        · have d1 : ((k : Int) == 9) = true := by simp [h9']
          have Hk : Hid _ := h9'
          clear h9' h10
          go_wp2
          go_ret3
          exact ⟨rdv_of HF.out rfl rfl rfl, rfl⟩
        · have d1 : ((k : Int) == 9) = false := by simp; omega
          clear h10
          go_wp2
          go_ret3
          exact ⟨rdv_of HF.out rfl rfl rfl, rfl⟩

theorem rd_err_zero (s : ByteArray) (h : (NM.rd s.data.toList 0 0).2.2 ≠ 0) : rdsv s = .tuple #[.int .i64 0, .int .i64 0, .int .i64 (NM.rd s.data.toList 0 0).2.2] := by
  have hb := NM.rd_bad _ _ _ h
  unfold rdsv
  rw [hb.1, hb.2]
  rfl

set_option maxHeartbeats 400000 in
theorem signedOf_any (s : ByteArray) (w : World) (hs : s.size ≤ maxLen) :
    Calls Try.prog 30 #[.string s] w fun e w' => e = .returned (rdsv s) ∧ w' = w := by
  have hr := rd_lt s
  by_cases he : (NM.rd s.data.toList 0 0).2.2 = 0
  · have he' : (((NM.rd s.data.toList 0 0).2.2 : Int) != 0) = false := by simp [he]
    have HE : Hid _ := he
    clear he
    go_enter Try.func30, Try.ntmps30
    go_wp2_with (first | (go_at_call 29; refine (numOf_any _ _ hs).mono ?_; rintro e w' ⟨rfl, rfl⟩; unfold rdv) | (go_at_call 48; refine (zagOf_any _ _ hr.1 hr.2).mono ?_; rintro e w' ⟨rfl, rfl⟩))
    go_ret3
    exact ⟨rfl, rfl⟩
  · have HZ : Hid _ := rd_err_zero s he
    have he' : (((NM.rd s.data.toList 0 0).2.2 : Int) != 0) = true := by simp; omega
    have HE : Hid _ := he
    clear he
    go_enter Try.func30, Try.ntmps30
    go_wp2_with (first | (go_at_call 29; refine (numOf_any _ _ hs).mono ?_; rintro e w' ⟨rfl, rfl⟩; unfold rdv))
    go_ret3
    exact ⟨by rw [HZ.out]; rfl, rfl⟩
end Go.Proofs.Ythpcdhnaibpjnaa
