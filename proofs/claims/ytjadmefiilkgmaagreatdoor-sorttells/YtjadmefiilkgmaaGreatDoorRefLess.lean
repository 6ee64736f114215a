/-
  What the document's own ValueLess answers.
-/
import Derived.Test.YtjadmefiilkgmaaGreatDoorRefVal
import Derived.Test.YtjadmefiilkgmaaGreatDoorOrM
namespace Go.Proofs.YtjadmefiilkgmaaGreatDoor
open Go.ChangeShapes Go.WideShapes Go.ChangeAt Go.RowKit
set_option linter.unusedVariables false
set_option linter.unusedSimpArgs false

theorem ci_self (x : Int) : CM.ci x x = 0 := by unfold CM.ci; rw [if_neg (by omega), if_neg (by omega)]
theorem ci_lt {x y : Int} (h : x ≠ y) : (CM.ci x y < 0 ↔ x < y) ∧ CM.ci x y ≠ 0 := by
  unfold CM.ci
  repeat' split
  all_goals omega
theorem or3_first {x y z : Int} (h : x ≠ 0) : CM.or3 x y z = x := if_pos h
theorem or3_second {y z : Int} (h : y ≠ 0) : CM.or3 0 y z = y := by unfold CM.or3; rw [if_neg (by simp), if_pos h]
theorem or3_third (z : Int) : CM.or3 0 0 z = z := by unfold CM.or3; rw [if_neg (by simp), if_neg (by simp)]
theorem cb_zero : ∀ {l m : List UInt8}, Lib.compareBytes l m = 0 ↔ l = m := by
  intro l
  induction l with
  | nil => intro m; cases m <;> simp [Lib.compareBytes]
  | cons a t ih =>
    intro m
    cases m with
    | nil => simp [Lib.compareBytes]
    | cons b u =>
      conv => lhs; unfold Lib.compareBytes
      simp only [UInt8.lt_iff_toNat_lt]
      by_cases h1 : a.toNat < b.toNat
      · rw [if_pos h1]
        have : a ≠ b := by rintro rfl; omega
        simp [this]
      · rw [if_neg h1]
        by_cases h2 : b.toNat < a.toNat
        · rw [if_pos h2]
          have : a ≠ b := by rintro rfl; omega
          simp [this]
        · rw [if_neg h2]
          obtain rfl : a = b := UInt8.toNat_inj.1 (by omega)
          simp [ih]
theorem ord_zero (a b : VM.Vl) : CM.ord a b = 0 ↔ a.k = b.k ∧ a.n = b.n ∧ a.s = b.s := by
  unfold CM.ord
  have hs : Lib.compareBytes a.s.data.toList b.s.data.toList = 0 ↔ a.s = b.s := by
    rw [cb_zero]
    constructor
    · intro h
      cases hA : a.s
      cases hB : b.s
      rw [hA, hB] at h
      simp only at h
      rw [Array.toList_inj.1 h]
    · intro h; rw [h]
  by_cases h1 : a.k = b.k
  · rw [h1, ci_self]
    by_cases h2 : a.n = b.n
    · rw [h2, ci_self, or3_third, hs]; simp
    · have := ci_lt h2
      rw [or3_second this.2]
      simp [this.2, h2]
  · have := ci_lt h1
    rw [or3_first this.2]
    simp [this.2, h1]

set_option maxRecDepth 100000 in
set_option maxHeartbeats 1000000 in
theorem valueLess_any (a b : VM.Vl) (w : World) (ha : a.s.size ≤ maxLen) (hb : b.s.size ≤ maxLen) :
    Calls Tryz.prog 32 #[a.val, b.val] w fun e w' => e = .returned (.bool (decide (CM.ord a b < 0))) ∧ Fr w w' := by
  obtain ⟨ak, an, sa⟩ := a
  obtain ⟨bk, bn, sb⟩ := b
  have hT := fun W => textLess_any sa sb W ha hb
  have HO : Hid (CM.ord ⟨ak, an, sa⟩ ⟨bk, bn, sb⟩ = CM.or3 (CM.ci ak bk) (CM.ci an bn) (Lib.compareBytes sa.data.toList sb.data.toList)) := rfl
  generalize CM.ord ⟨ak, an, sa⟩ ⟨bk, bn, sb⟩ = o at *
  generalize Lib.compareBytes sa.data.toList sb.data.toList = z at *
  unfold VM.Vl.val
  simp only
  clear ha hb
  by_cases h1 : ak = bk
  · subst h1
    by_cases h2 : an = bn
    · subst h2
      have HE : Hid (o = z) := by
        unfold Hid
        rw [HO.out, ci_self, ci_self, or3_third]
      clear HO
      go_enter Tryz.func32, Tryz.ntmps32
      go_wp2_with (go_at_call 59; refine (hT _).mono ?_)
      rintro _ w1 ⟨rfl, hf1⟩
      go_wp2_with fail
      go_ret
      exact ⟨ret_bool (by rw [HE.out]), Fr.trans (((Fr.refl w).alloc _).alloc _) hf1⟩
    · have hc := ci_lt h2
      have HE : Hid (o < 0 ↔ an < bn) := by
        unfold Hid
        rw [HO.out, ci_self, or3_second hc.2, hc.1]
      have q : (an != bn) = true := by simpa using h2
      clear HO hc hT
      go_enter Tryz.func32, Tryz.ntmps32
      go_wp2_with fail
      go_ret
      exact ⟨ret_bool (by rw [decide_eq_decide, HE.out]), ((Fr.refl w).alloc _).alloc _⟩
  · have hc := ci_lt h1
    have HE : Hid (o < 0 ↔ ak < bk) := by
      unfold Hid
      rw [HO.out, or3_first hc.2, hc.1]
    have q : (ak != bk) = true := by simpa using h1
    clear HO hc hT
    go_enter Tryz.func32, Tryz.ntmps32
    go_wp2_with fail
    go_ret
    exact ⟨ret_bool (by rw [decide_eq_decide, HE.out]), ((Fr.refl w).alloc _).alloc _⟩

end Go.Proofs.YtjadmefiilkgmaaGreatDoor
