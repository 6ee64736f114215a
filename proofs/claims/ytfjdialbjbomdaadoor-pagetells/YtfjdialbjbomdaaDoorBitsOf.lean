/-
  What the document's own bitsOf and divisor come to: the bits of a text, and those of the divisor.
-/
import Derived.Test.YtfjdialbjbomdaaDoorSumWalks
import Derived.Test.YtfjdialbjbomdaaDoorDivMath
import Derived.Deep.RegionHeld3
namespace Go.Proofs.YtfjdialbjbomdaaDoor
open Go.ChangeShapes Go.WideShapes Go.ChangeAt Go.RowKit
set_option linter.unusedVariables false

theorem Tryd.infoBool : (Tryd.prog.info? 4).map (fun i => (i.zero, i.size, i.bytes)) = some (some (.bool false), 1, 1) := by kernel_rfl

def boolV (f : Nat → Bool) (n : Nat) : List Value := (List.range n).map fun j => .bool (f j)
theorem boolV_succ (f : Nat → Bool) (n : Nat) : boolV f (n + 1) = boolV f n ++ [.bool (f n)] := by
  unfold boolV; rw [List.range_succ, List.map_append]; rfl
theorem boolV_congr {f g : Nat → Bool} {n : Nat} (h : ∀ j, j < n → f j = g j) : boolV f n = boolV g n := by
  unfold boolV
  apply List.map_congr_left
  intro j hj
  rw [h j (List.mem_range.1 hj)]

theorem bit_of_byte (s : ByteArray) (i k : Nat) (hi : i < s.size) (hk : k < 8) : SM.bitOf s.data.toList (8 * i + k) = s[i].toNat.testBit k := by
  unfold SM.bitOf
  rw [show (8 * i + k) / 8 = i by omega, show (8 * i + k) % 8 = k by omega, List.getD_eq_getElem?_getD, List.getElem?_eq_getElem (by simpa using hi)]
  rfl
theorem bit_test (s : ByteArray) (i k : Nat) (hi : i < s.size) (hk : k < 8) : (((s[i].toNat / 2 ^ k : Nat) : Int) % 2 == 1) = SM.bitOf s.data.toList (8 * i + k) := by
  rw [bit_of_byte s i k hi hk, Nat.testBit_eq_decide_div_mod_eq]
  by_cases c : s[i].toNat / 2 ^ k % 2 = 1
  · rw [decide_eq_true c, beq_iff_eq]; omega
  · rw [decide_eq_false c, beq_eq_false_iff_ne]; omega

set_option maxRecDepth 100000 in
set_option maxHeartbeats 2000000 in
theorem bitsOf_any (s : ByteArray) (w : World) (hs : s.size ≤ 1048576) :
    Calls Tryd.prog 40 #[.string s] w fun e w' => ∃ v, e = .returned v ∧ w'.ownsRow w.heap.size 4 1 v (8 * s.size) (boolV (SM.bitOf s.data.toList) (8 * s.size)) ∧ Fr w w' := by
  obtain ⟨i0, hi, hz0, hz1, hz2⟩ := info_parts Tryd.infoBool
  go_enter Tryd.func40, Tryd.ntmps40
  go_wp2
  go_loopw [3, 4] (fun v i wr => ∃ n : Nat, n ≤ s.size ∧ i = .int .i64 n ∧ wr.ownsRow w.heap.size 4 1 v (8 * n) (boolV (SM.bitOf s.data.toList) (8 * n)) ∧ Fr w wr) (fun _ i _ => s.size - (intOf i).toNat)
  case atStart => exact ⟨0, Nat.zero_le _, rfl, World.ownsRow_nil _ _ _ _, Fr.refl _⟩
  case round =>
    obtain ⟨n, hn, rfl, hown, hfr⟩ := hrel
    by_cases hlt : n < s.size
    · have HB : Hid _ := fun k hk => bit_test s n k hlt hk
      have hb0 : (s[n].toNat : Int) < 256 := by have := s[n].toNat_lt; omega
      obtain ⟨wo, rfl⟩ : ∃ wo : World, wo = wr := ⟨_, rfl⟩
      have HO : Hid _ := hown
      clear hown
      go_wp2
      go_loopw [3, 5, 6] (fun v b k wr => ∃ q : Nat, q ≤ 8 ∧ k = .int .i64 q ∧ b = .int .i64 ((s[n].toNat / 2 ^ q : Nat) : Int) ∧ wr.ownsRow w.heap.size 4 1 v (8 * n + q) (boolV (SM.bitOf s.data.toList) (8 * n + q)) ∧ Fr w wr) (fun _ _ k _ => 8 - (intOf k).toNat)
      case atStart => exact ⟨0, by omega, rfl, by simp, HO.out, hfr⟩
      case round =>
        obtain ⟨q, hq, rfl, rfl, hown, hfr2⟩ := hrel
        have hle := hfr2.size
        by_cases hq8 : q < 8
        · have hbt := HB.out q hq8
          have HS : Hid _ := boolV_succ (SM.bitOf s.data.toList) (8 * n + q)
          have HD : Hid (s[n].toNat / 2 ^ q / 2 = s[n].toNat / 2 ^ (q + 1)) := by unfold Hid; rw [Nat.pow_succ, Nat.div_div_eq_div_mul]
          have hxb : s[n].toNat / 2 ^ q ≤ s[n].toNat := Nat.div_le_self _ _
          generalize s[n].toNat / 2 ^ q = x at *
          have hx0 : (x : Int) < 256 := by omega
          generalize SM.bitOf s.data.toList (8 * n + q) = bq at *
          clear HB
          go_wp2_with (at_builtin; refine wpList_append_own _ rfl _ _ 66 rfl w.heap.size 4 i0 (.bool false) 1 1 Tryd.underlying66 hi hz0 hz1 hz2 rfl (by decide) _ _ _ rfl (hown.alloc _) ⟨wr.heap.size, 0, none⟩ 1 1 [.bool bq] rfl rfl ?c1 ?c2 ?c3 ?c4 ?c5 ?_)
          case c1 => exact cell_one_new _ _ _
          case c2 => intro u hu; simp at hu; subst hu; rfl
          case c3 => unfold maxLen; omega
          case c4 => omega
          case c5 => simp; omega
          intro v' w1 hown' hgrow _
          have ho : w1.ownsRow w.heap.size 4 1 v' (8 * n + (q + 1)) (boolV (SM.bitOf s.data.toList) (8 * n + (q + 1))) := by
            rw [← Nat.add_assoc, HS.out]; exact hown'
          have hf : Fr w w1 := Below.grown (Below.alloc hfr2 hle _) hgrow (Nat.le_trans hle (by simp)) (fun k hk => (hown.lt k hk).1)
          have HO2 : Hid _ := ho
          clear ho hown' hgrow hown
          go_wp2
          go_roundw
          case rel => exact ⟨q + 1, by omega, by go_num, by rw [← HD.out]; go_num, HO2.out, hf⟩
          case measure => simp [intOf]; omega
        · have q8 : q = 8 := by omega
          rw [q8, show 8 * n + 8 = 8 * (n + 1) by omega] at hown
          have HO3 : Hid _ := hown
          clear hown
          go_wp2
          go_roundw
          case rel => exact ⟨n + 1, by omega, by go_num, HO3.out, hfr2⟩
          case measure => simp [intOf]; omega
    · have e : n = s.size := by omega
      have HO : Hid _ := hown
      clear hown
      go_wp2
      go_ret
      exact ⟨_, rfl, by rw [← e]; exact HO.out, hfr⟩

theorem cast_div_pow (m q : Nat) : ((m / 2 ^ q : Nat) : Int) = (m : Int) / 2 ^ q := by push_cast; rfl
theorem dvs_test (q : Nat) (hq : q ≤ 32) : (bits .and .u64 ((4812730177 : Int) / 2 ^ q) 1 == 1) = SM.dvs (32 - q) := by
  have h1 := u64_and_nat (4812730177 / 2 ^ q) 1 (Nat.lt_of_le_of_lt (Nat.div_le_self _ _) (by decide)) (by decide)
  have e : ((4812730177 / 2 ^ q : Nat) : Int) = (4812730177 : Int) / 2 ^ q := cast_div_pow 4812730177 q
  rw [e] at h1
  rw [show bits .and .u64 ((4812730177 : Int) / 2 ^ q) 1 = ((4812730177 / 2 ^ q &&& 1 : Nat) : Int) from h1, nat_mask1]
  unfold SM.dvs
  rw [show 32 - (32 - q) = q by omega, Nat.testBit_eq_decide_div_mod_eq]
  by_cases c : 4812730177 / 2 ^ q % 2 = 1
  · rw [decide_eq_true c, c]; rfl
  · have : 4812730177 / 2 ^ q % 2 = 0 := by omega
    rw [decide_eq_false c, this]; rfl

set_option maxRecDepth 100000 in
set_option maxHeartbeats 2000000 in
theorem divisor_any (w : World) :
    Calls Tryd.prog 41 #[] w fun e w' => ∃ v, e = .returned v ∧ w'.ownsRow w.heap.size 4 1 v 33 (boolV SM.dvs 33) ∧ Fr w w' := by
  obtain ⟨i0, hi, hz0, hz1, hz2⟩ := info_parts Tryd.infoBool
  go_enter Tryd.func41, Tryd.ntmps41
  go_wp2
  go_loopw [1, 3] (fun v i wr => ∃ n : Nat, n ≤ 33 ∧ i = .int .i64 (((33 - n : Nat) : Int) - 1) ∧ wr.ownsRow w.heap.size 4 1 v n (boolV SM.dvs n) ∧ Fr w wr) (fun _ i _ => (intOf i + 1).toNat)
  case atStart => exact ⟨0, Nat.zero_le _, rfl, World.ownsRow_nil _ _ _ _, Fr.refl _⟩
  case round =>
    obtain ⟨n, hn, rfl, hown, hfr⟩ := hrel
    have hle := hfr.size
    by_cases hlt : n < 33
    · obtain ⟨q, hq⟩ : ∃ q, 33 - n = q + 1 := ⟨32 - n, by omega⟩
      rw [hq]
      have hbt := dvs_test q (by omega)
      rw [show 32 - q = n by omega] at hbt
      have HS : Hid _ := boolV_succ SM.dvs n
      generalize SM.dvs n = bq at *
      have hq0 : (q : Int) ≤ 32 := by omega
      have HQ : Hid _ := hq
      clear hq
      go_wp2_with (at_builtin; refine wpList_append_own _ rfl _ _ 66 rfl w.heap.size 4 i0 (.bool false) 1 1 Tryd.underlying66 hi hz0 hz1 hz2 rfl (by decide) _ _ _ rfl (hown.alloc _) ⟨wr.heap.size, 0, none⟩ 1 1 [.bool bq] rfl rfl ?c1 ?c2 ?c3 ?c4 ?c5 ?_)
      case c1 => exact cell_one_new _ _ _
      case c2 => intro u hu; simp at hu; subst hu; rfl
      case c3 => unfold maxLen; omega
      case c4 => omega
      case c5 => simp; omega
      intro v' w1 hown' hgrow _
      have ho : w1.ownsRow w.heap.size 4 1 v' (n + 1) (boolV SM.dvs (n + 1)) := by rw [HS.out]; exact hown'
      have hf : Fr w w1 := Below.grown (Below.alloc hfr hle _) hgrow (Nat.le_trans hle (by simp)) (fun k hk => (hown.lt k hk).1)
      have HO2 : Hid _ := ho
      clear ho hown' hgrow hown
      go_wp2
      go_roundw
      case rel => exact ⟨n + 1, by omega, by have := HQ.out; go_num, HO2.out, hf⟩
      case measure => simp [intOf]
    · have e : n = 33 := by omega
      subst e
      have HO : Hid _ := hown
      clear hown
      go_wp2
      go_ret
      exact ⟨_, rfl, HO.out, hfr⟩
end Go.Proofs.YtfjdialbjbomdaaDoor
