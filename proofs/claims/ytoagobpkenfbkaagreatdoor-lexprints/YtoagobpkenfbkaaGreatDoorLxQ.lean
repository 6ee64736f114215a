/-
  between: how many bytes of blanks and remarks a text begins by; quotedSize, blobSize.
-/
import Derived.Test.YtoagobpkenfbkaaGreatDoorLxP
namespace Go.Proofs.YtoagobpkenfbkaaGreatDoor
open Go.ChangeShapes Go.WideShapes Go.ChangeAt Go.RowKit
set_option linter.unusedVariables false
set_option linter.unusedSimpArgs false
set_option maxRecDepth 100000

theorem restL (s : ByteArray) (k : Nat) (h : k ≤ s.size) : (s.extract k s.size).data.toList = s.data.toList.drop k := by
  have : (s.extract k s.size).data.toList = (s.data.toList.drop k).take (s.size - k) := by simp
  rw [this, List.take_of_length_le]
  rw [List.length_drop, Array.length_toList]
  exact Nat.le_refl _
theorem dlenx (s : ByteArray) : s.data.toList.length = s.size := by rw [Array.length_toList]; rfl
theorem remark_yes {l : List UInt8} (h : Lib.hasPrefix l [45, 45] = true) : ∃ r, l = 45 :: 45 :: r := by
  unfold Lib.hasPrefix at h
  rw [List.isPrefixOf_iff_prefix] at h
  obtain ⟨r, rfl⟩ := h
  exact ⟨r, rfl⟩
theorem remark_no {l : List UInt8} (h : Lib.hasPrefix l [45, 45] = false) : LX.NoRem l := by
  rintro r rfl
  unfold Lib.hasPrefix at h
  rw [show ([45, 45] : List UInt8).isPrefixOf (45 :: 45 :: r) = true from rfl] at h
  cases h
theorem sk_zero {l : List UInt8} (h : LX.NoRem (l.drop (LX.run LX.blank l))) : LX.sk false l = LX.run LX.blank l := by
  rw [← LX.skp_sk (l.length + 1) l (by omega)]
  exact LX.skp_here _ _ h
theorem sk_remark {r : List UInt8} : LX.sk false (45 :: 45 :: r) = LX.run (fun b => decide (b.toNat ≠ 10)) (45 :: 45 :: r) + LX.sk false ((45 :: 45 :: r).drop (LX.run (fun b => decide (b.toNat ≠ 10)) (45 :: 45 :: r))) := by
  rw [← LX.sk_line]
  have e1 : LX.sk false (45 :: 45 :: r) = LX.sk true (45 :: r) + 1 := by
    conv => lhs; unfold LX.sk
    rw [if_neg (by decide), if_pos ⟨rfl, rfl⟩]
  have e2 : LX.sk true (45 :: 45 :: r) = LX.sk true (45 :: r) + 1 := by
    conv => lhs; unfold LX.sk
    rw [if_neg (by decide)]
  rw [e1, e2]

set_option maxHeartbeats 1000000 in
theorem between_any (s : ByteArray) (w : World) (hs : s.size ≤ 140737488355327) :
    Calls Tryz.prog 18 #[.string s] w fun e w' => e = .returned (.int .i64 (LX.sk false s.data.toList)) ∧ w' = w := by
  obtain ⟨R, hR⟩ : ∃ R, LX.sk false s.data.toList = R := ⟨_, rfl⟩
  rw [hR]
  have HR : Hid _ := hR
  clear hR
  have hlen := dlenx s
  go_enter Tryz.func18, Tryz.ntmps18
  go_wp2_with fail
  go_loopw [3] (fun iv wr => ∃ k : Nat, iv = .int .i64 k ∧ k ≤ s.size ∧ R = k + LX.sk false (s.data.toList.drop k) ∧ wr = w) (fun iv _ => s.size - (intOf iv).toNat)
  case atStart => exact ⟨0, rfl, Nat.zero_le _, by rw [← HR.out]; simp, rfl⟩
  case round =>
    obtain ⟨k, rfl, hk, hR, rfl⟩ := hrel
    have hkZ : (k : Int) ≤ (s.size : Int) := by omega
    have hex : (s.extract k s.size).size ≤ 140737488355327 := by rw [ByteArray.size_extract]; omega
    have c1 := runBlank (s.extract k s.size) wr hex LX.blank (fun b W => blankClo_any b W)
    rw [restL s k hk] at c1
    have h1 := LX.run_le LX.blank (s.data.toList.drop k)
    rw [List.length_drop, hlen] at h1
    have hA : LX.NoRem (s.data.toList.drop (k + LX.run LX.blank (s.data.toList.drop k))) → R = k + LX.run LX.blank (s.data.toList.drop k) := fun h => by
      rw [hR, sk_zero (by rw [List.drop_drop]; exact h)]
    have hB : R = k + LX.run LX.blank (s.data.toList.drop k) + LX.sk false (s.data.toList.drop (k + LX.run LX.blank (s.data.toList.drop k))) := by
      rw [hR]
      have e1 := LX.sk_blanks (s.data.toList.drop k)
      rw [List.drop_drop] at e1
      rw [Nat.add_assoc, ← e1]
    clear hR
    generalize LX.run LX.blank (s.data.toList.drop k) = r1 at *
    have hkr : k + r1 ≤ s.size := by omega
    have hkrZ : (k : Int) + (r1 : Int) ≤ (s.size : Int) := by omega
    have c2 := Tryz.strings_HasPrefix (s.extract (k + r1) s.size) ⟨#[45, 45]⟩ wr
    rw [restL s (k + r1) hkr] at c2
    have c3 := runLine (s.extract (k + r1) s.size) wr (by rw [ByteArray.size_extract]; omega) (fun b => decide (b.toNat ≠ 10)) (fun b W => lineClo_any b W)
    rw [restL s (k + r1) hkr] at c3
    have hn1 : (0 : Int) ≤ (k : Int) + (r1 : Int) := by omega
    have hw1 : IntKind.i64.wrap ((k : Int) + (r1 : Int)) = (k : Int) + (r1 : Int) := by simp only [IntKind.wrap]; simp [IntKind.min, IntKind.max, IntKind.signed, IntKind.bits]; omega
    have ht1 : ((k : Int) + (r1 : Int)).toNat = k + r1 := by omega
    cases hp : Lib.hasPrefix (s.data.toList.drop (k + r1)) (⟨#[45, 45]⟩ : ByteArray).data.toList with
    | false =>
      rw [hp] at c2
      have hp' : Lib.hasPrefix (s.data.toList.drop (k + r1)) [45, 45] = false := hp
      have HX : Hid (R = k + r1) := hA (remark_no hp')
      clear hA hB hp hp' c3 hlen
      go_wp2_with fail
      refine c1.mono ?_
      rintro _ w1 ⟨rfl, rfl⟩
      go_wp2_with fail
      refine c2.mono ?_
      rintro _ w2 ⟨rfl, rfl⟩
      go_wp2_with fail
      go_ret
      exact ⟨by rw [HX.out]; first | rfl | simp, by first | rfl | trivial⟩
    | true =>
      rw [hp] at c2
      have hp' : Lib.hasPrefix (s.data.toList.drop (k + r1)) [45, 45] = true := hp
      obtain ⟨q, hq⟩ := remark_yes hp'
      have h2 : 0 < LX.run (fun b : UInt8 => decide (b.toNat ≠ 10)) (s.data.toList.drop (k + r1)) := by rw [hq, LX.run_step _ _ _ (by decide)]; omega
      have h3 := LX.run_le (fun b : UInt8 => decide (b.toNat ≠ 10)) (s.data.toList.drop (k + r1))
      rw [List.length_drop, hlen] at h3
      have h4 : LX.sk false (s.data.toList.drop (k + r1)) = LX.run (fun b : UInt8 => decide (b.toNat ≠ 10)) (s.data.toList.drop (k + r1)) + LX.sk false (s.data.toList.drop (k + r1 + LX.run (fun b : UInt8 => decide (b.toNat ≠ 10)) (s.data.toList.drop (k + r1)))) := by
        have := @sk_remark q
        rw [← hq, List.drop_drop] at this
        exact this
      rw [h4] at hB
      generalize LX.run (fun b : UInt8 => decide (b.toNat ≠ 10)) (s.data.toList.drop (k + r1)) = r2 at *
      have HN : Hid (R = k + r1 + r2 + LX.sk false (s.data.toList.drop (k + r1 + r2))) := by unfold Hid; omega
      clear hA hB hp hp' hlen hq h4
      go_wp2_with fail
      refine c1.mono ?_
      rintro _ w1 ⟨rfl, rfl⟩
      go_wp2_with fail
      refine c2.mono ?_
      rintro _ w2 ⟨rfl, rfl⟩
      go_wp2_with fail
      refine c3.mono ?_
      rintro _ w3 ⟨rfl, rfl⟩
      go_wp2_with fail
      go_roundw
      case rel => exact ⟨k + r1 + r2, by go_num, by omega, HN.out, by first | rfl | trivial⟩
      case measure => simp [intOf]; omega
end Go.Proofs.YtoagobpkenfbkaaGreatDoor
