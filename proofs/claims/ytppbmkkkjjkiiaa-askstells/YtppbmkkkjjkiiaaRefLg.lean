/-
  What the document's own ValueLess, LessOf and SameOf answer.
-/
import Derived.Test.YtppbmkkkjjkiiaaRefVal
namespace Go.Proofs.Ytppbmkkkjjkiiaa
open Go.ChangeShapes Go.WideShapes Go.ChangeAt Go.RowKit
set_option linter.unusedVariables false
set_option linter.unusedSimpArgs false

theorem ci_self (x : Int) : CM.ci x x = 0 := by unfold CM.ci; rw [if_neg (by omega), if_neg (by omega)]
theorem ci_lt {x y : Int} (h : x ≠ y) : (CM.ci x y < 0 ↔ x < y) ∧ CM.ci x y ≠ 0 := by
  unfold CM.ci
  repeat' split
  all_goals omega
theorem or3_first {x y z : Int} (h : x ≠ 0) : CM.or3 x y z = x := if_pos h
theorem or3_second {y z : Int} (h : y ≠ 0) : CM.or3 0 y z = y := by unfold CM.or3; rw [if_neg (by simp), if_pos h]
theorem or3_third (z : Int) : CM.or3 0 0 z = z := by unfold CM.or3; rw [if_neg (by simp), if_neg (by simp)]
theorem cb_zero : ∀ {l m : List UInt8}, Lib.compareBytes l m = 0 ↔ l = m := by
  intro l
  induction l with
  | nil => intro m; cases m <;> simp [Lib.compareBytes]
  | cons a t ih =>
    intro m
    cases m with
    | nil => simp [Lib.compareBytes]
    | cons b u =>
      conv => lhs; unfold Lib.compareBytes
      simp only [UInt8.lt_iff_toNat_lt]
      by_cases h1 : a.toNat < b.toNat
      · rw [if_pos h1]
        have : a ≠ b := by rintro rfl; omega
        simp [this]
      · rw [if_neg h1]
        by_cases h2 : b.toNat < a.toNat
        · rw [if_pos h2]
          have : a ≠ b := by rintro rfl; omega
          simp [this]
        · rw [if_neg h2]
          obtain rfl : a = b := UInt8.toNat_inj.1 (by omega)
          simp [ih]
theorem ord_zero (a b : VM.Vl) : CM.ord a b = 0 ↔ a.k = b.k ∧ a.n = b.n ∧ a.s = b.s := by
  unfold CM.ord
  have hs : Lib.compareBytes a.s.data.toList b.s.data.toList = 0 ↔ a.s = b.s := by
    rw [cb_zero]
    constructor
    · intro h
      cases hA : a.s
      cases hB : b.s
      rw [hA, hB] at h
      simp only at h
      rw [Array.toList_inj.1 h]
    · intro h; rw [h]
  by_cases h1 : a.k = b.k
  · rw [h1, ci_self]
    by_cases h2 : a.n = b.n
    · rw [h2, ci_self, or3_third, hs]; simp
    · have := ci_lt h2
      rw [or3_second this.2]
      simp [this.2, h2]
  · have := ci_lt h1
    rw [or3_first this.2]
    simp [this.2, h1]

set_option maxRecDepth 100000 in
set_option maxHeartbeats 1000000 in
theorem valueLess_any (a b : VM.Vl) (w : World) (ha : a.s.size ≤ maxLen) (hb : b.s.size ≤ maxLen) :
    Calls Try.prog 38 #[a.val, b.val] w fun e w' => e = .returned (.bool (decide (CM.ord a b < 0))) ∧ Fr w w' := by
  obtain ⟨ak, an, sa⟩ := a
  obtain ⟨bk, bn, sb⟩ := b
  have hT := fun W => textLess_any sa sb W ha hb
  have HO : Hid (CM.ord ⟨ak, an, sa⟩ ⟨bk, bn, sb⟩ = CM.or3 (CM.ci ak bk) (CM.ci an bn) (Lib.compareBytes sa.data.toList sb.data.toList)) := rfl
  generalize CM.ord ⟨ak, an, sa⟩ ⟨bk, bn, sb⟩ = o at *
  generalize Lib.compareBytes sa.data.toList sb.data.toList = z at *
  unfold VM.Vl.val
  simp only
  clear ha hb
  by_cases h1 : ak = bk
  · subst h1
    by_cases h2 : an = bn
    · subst h2
      have HE : Hid (o = z) := by
        unfold Hid
        rw [HO.out, ci_self, ci_self, or3_third]
      clear HO
      go_enter Try.func38, Try.ntmps38
      go_wp2_with (go_at_call 42; refine (hT _).mono ?_)
      rintro _ w1 ⟨rfl, hf1⟩
      go_wp2_with fail
      go_ret
      exact ⟨ret_bool (by rw [HE.out]), Fr.trans (((Fr.refl w).alloc _).alloc _) hf1⟩
    · have hc := ci_lt h2
      have HE : Hid (o < 0 ↔ an < bn) := by
        unfold Hid
        rw [HO.out, ci_self, or3_second hc.2, hc.1]
      have q : (an != bn) = true := by simpa using h2
      clear HO hc hT
      go_enter Try.func38, Try.ntmps38
      go_wp2_with fail
      go_ret
      exact ⟨ret_bool (by rw [decide_eq_decide, HE.out]), ((Fr.refl w).alloc _).alloc _⟩
  · have hc := ci_lt h1
    have HE : Hid (o < 0 ↔ ak < bk) := by
      unfold Hid
      rw [HO.out, or3_first hc.2, hc.1]
    have q : (ak != bk) = true := by simpa using h1
    clear HO hc hT
    go_enter Try.func38, Try.ntmps38
    go_wp2_with fail
    go_ret
    exact ⟨ret_bool (by rw [decide_eq_decide, HE.out]), ((Fr.refl w).alloc _).alloc _⟩

set_option maxRecDepth 100000 in
theorem truth_any (b : Bool) (w : World) : Calls Try.prog 37 #[.bool b] w fun e w' => e = .returned (.int .i64 (if b = true then 2 else 0)) ∧ w' = w := by
  cases b
  · go_enter Try.func37, Try.ntmps37
    go_wp2_with fail
    go_ret
    exact ⟨rfl, rfl⟩
  · go_enter Try.func37, Try.ntmps37
    go_wp2_with fail
    go_ret
    exact ⟨rfl, rfl⟩

/-- less and same by the order itself -/
def LG.lto (a b : VM.Vl) : Int := if a.k = 0 ∨ b.k = 0 then 1 else if CM.ord a b < 0 then 2 else 0
def LG.smo (a b : VM.Vl) : Int := if a.k = 0 ∨ b.k = 0 then 1 else if CM.ord a b = 0 then 2 else 0

set_option maxRecDepth 100000 in
set_option maxHeartbeats 1000000 in
theorem lessOf_any (a b : VM.Vl) (w : World) (ha : a.s.size ≤ maxLen) (hb : b.s.size ≤ maxLen) :
    Calls Try.prog 27 #[a.val, b.val] w fun e w' => e = .returned (.int .i64 (LG.lto a b)) ∧ Fr w w' := by
  have hv := fun W => valueLess_any a b W ha hb
  have ht := fun W => truth_any (decide (CM.ord a b < 0)) W
  have HL : Hid (LG.lto a b = if a.k = 0 ∨ b.k = 0 then 1 else if CM.ord a b < 0 then 2 else 0) := rfl
  generalize LG.lto a b = r at *
  generalize CM.ord a b = o at *
  obtain ⟨ak, an, sa⟩ := a
  obtain ⟨bk, bn, sb⟩ := b
  unfold VM.Vl.val at *
  simp only at *
  clear ha hb
  by_cases h1 : ak = 0
  · have HR : Hid (r = 1) := HL.out.trans (if_pos (Or.inl h1))
    clear HL
    subst h1
    go_enter Try.func27, Try.ntmps27
    go_wp2_with fail
    go_ret
    exact ⟨ret_int HR.out.symm, ((Fr.refl w).alloc _).alloc _⟩
  have q1 : (ak == 0) = false := by simpa using h1
  by_cases h2 : bk = 0
  · have HR : Hid (r = 1) := HL.out.trans (if_pos (Or.inr h2))
    clear HL
    subst h2
    go_enter Try.func27, Try.ntmps27
    go_wp2_with fail
    go_ret
    exact ⟨ret_int HR.out.symm, ((Fr.refl w).alloc _).alloc _⟩
  have q2 : (bk == 0) = false := by simpa using h2
  have HL2 : Hid (r = if o < 0 then 2 else 0) := HL.out.trans (if_neg (by omega))
  clear HL h1 h2
  generalize hd : decide (o < 0) = d at *
  have HD : Hid (r = if d = true then 2 else 0) := by
    unfold Hid
    rw [HL2.out, ← hd]
    simp
  clear HL2 hd
  go_enter Try.func27, Try.ntmps27
  go_wp2_with (go_at_call 38; refine (hv _).mono ?_)
  rintro _ w1 ⟨rfl, hf1⟩
  have HF : Hid (Fr w w1) := Fr.trans (((Fr.refl w).alloc _).alloc _) hf1
  clear hf1
  generalize (if d = true then (2 : Int) else 0) = y at *
  go_wp2_with (go_at_call 37; refine (ht _).mono ?_)
  rintro _ w2 ⟨rfl, rfl⟩
  go_wp2_with fail
  go_ret
  exact ⟨ret_int HD.out.symm, HF.out⟩

set_option maxRecDepth 100000 in
set_option maxHeartbeats 1000000 in
theorem sameOf_any (a b : VM.Vl) (w : World) :
    Calls Try.prog 28 #[a.val, b.val] w fun e w' => e = .returned (.int .i64 (LG.smo a b)) ∧ Fr w w' := by
  have HZ : Hid _ := ord_zero a b
  have HL : Hid (LG.smo a b = if a.k = 0 ∨ b.k = 0 then 1 else if CM.ord a b = 0 then 2 else 0) := rfl
  generalize LG.smo a b = r at *
  generalize CM.ord a b = o at *
  obtain ⟨ak, an, sa⟩ := a
  obtain ⟨bk, bn, sb⟩ := b
  unfold VM.Vl.val at *
  simp only at *
  by_cases h1 : ak = 0
  · have HR : Hid (r = 1) := HL.out.trans (if_pos (Or.inl h1))
    clear HL
    subst h1
    go_enter Try.func28, Try.ntmps28
    go_wp2_with fail
    go_ret
    exact ⟨ret_int HR.out.symm, ((Fr.refl w).alloc _).alloc _⟩
  have q1 : (ak == 0) = false := by simpa using h1
  by_cases h2 : bk = 0
  · have HR : Hid (r = 1) := HL.out.trans (if_pos (Or.inr h2))
    clear HL
    subst h2
    go_enter Try.func28, Try.ntmps28
    go_wp2_with fail
    go_ret
    exact ⟨ret_int HR.out.symm, ((Fr.refl w).alloc _).alloc _⟩
  have q2 : (bk == 0) = false := by simpa using h2
  have HL2 : Hid (r = if o = 0 then 2 else 0) := HL.out.trans (if_neg (by omega))
  clear HL h1 h2
  have tT := fun W => truth_any true W
  have tF := fun W => truth_any false W
  simp only [if_true, Bool.false_eq_true, if_false] at tT tF
  by_cases e1 : ak = bk
  · subst e1
    by_cases e2 : an = bn
    · subst e2
      by_cases e3 : sa = sb
      · subst e3
        have HR : Hid (r = 2) := HL2.out.trans (if_pos (HZ.out.2 ⟨rfl, rfl, rfl⟩))
        clear HL2 HZ tF
        go_enter Try.func28, Try.ntmps28
        go_wp2_with (go_at_call 37; refine (tT _).mono ?_)
        rintro _ w2 ⟨rfl, rfl⟩
        go_wp2_with fail
        go_ret
        exact ⟨ret_int HR.out.symm, ((Fr.refl w).alloc _).alloc _⟩
      · have HR : Hid (r = 0) := HL2.out.trans (if_neg (fun h => e3 (HZ.out.1 h).2.2))
        have e4 : ¬ sa.toList = sb.toList := by
          rw [ByteArray.toList_eq, ByteArray.toList_eq]
          intro h
          apply e3
          cases sa
          cases sb
          simp only at h
          rw [Array.toList_inj.1 h]
        clear HL2 HZ tT e3
        go_enter Try.func28, Try.ntmps28
        go_wp2_with (go_at_call 37; refine (tF _).mono ?_)
        rintro _ w2 ⟨rfl, rfl⟩
        go_wp2_with fail
        go_ret
        exact ⟨ret_int HR.out.symm, ((Fr.refl w).alloc _).alloc _⟩
    · have HR : Hid (r = 0) := HL2.out.trans (if_neg (fun h => e2 (HZ.out.1 h).2.1))
      clear HL2 HZ tT
      go_enter Try.func28, Try.ntmps28
      go_wp2_with (go_at_call 37; refine (tF _).mono ?_)
      rintro _ w2 ⟨rfl, rfl⟩
      go_wp2_with fail
      go_ret
      exact ⟨ret_int HR.out.symm, ((Fr.refl w).alloc _).alloc _⟩
  · have HR : Hid (r = 0) := HL2.out.trans (if_neg (fun h => e1 (HZ.out.1 h).1))
    clear HL2 HZ tT
    go_enter Try.func28, Try.ntmps28
    go_wp2_with (go_at_call 37; refine (tF _).mono ?_)
    rintro _ w2 ⟨rfl, rfl⟩
    go_wp2_with fail
    go_ret
    exact ⟨ret_int HR.out.symm, ((Fr.refl w).alloc _).alloc _⟩
end Go.Proofs.Ytppbmkkkjjkiiaa
