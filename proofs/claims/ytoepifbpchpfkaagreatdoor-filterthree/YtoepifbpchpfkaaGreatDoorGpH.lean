/-
  What belongs together: LgOrd, RefVal, RefLg, RefIn, RefBt, RefWh, RefTimes.
-/
import Derived.Test.YtoepifbpchpfkaaGreatDoorGpB
import Derived.Test.YtoepifbpchpfkaaGreatDoorRfV
import Derived.Test.YtoepifbpchpfkaaGreatDoorGpD
import Derived.Test.YtoepifbpchpfkaaGreatDoorGpC
namespace Go.Proofs.YtoepifbpchpfkaaGreatDoor
namespace LG
open VM

theorem cb_anti : ∀ l m : List UInt8, Lib.compareBytes m l = - Lib.compareBytes l m
  | [], [] => by simp [Lib.compareBytes]
  | [], _ :: _ => by simp [Lib.compareBytes]
  | _ :: _, [] => by simp [Lib.compareBytes]
  | a :: l, b :: m => by
    have ih := cb_anti l m
    unfold Lib.compareBytes
    by_cases h1 : a < b
    · have h2 : ¬ b < a := by rw [UInt8.lt_iff_toNat_lt] at *; omega
      rw [if_neg h2, if_pos h1, if_pos h1]; rfl
    · by_cases h2 : b < a
      · rw [if_pos h2, if_neg h1, if_pos h2]
      · rw [if_neg h2, if_neg h1, if_neg h1, if_neg h2]
        exact ih
theorem ci_anti (x y : Int) : CM.ci y x = - CM.ci x y := by
  unfold CM.ci
  repeat' split
  all_goals omega
theorem ord_anti (a b : Vl) : CM.ord b a = - CM.ord a b := by
  unfold CM.ord
  rw [ci_anti a.k b.k, ci_anti a.n b.n, cb_anti a.s.data.toList b.s.data.toList]
  unfold CM.or3
  repeat' split
  all_goals omega
theorem chk_two (a b : Vl) : chkAll [a, b] = 0 ↔ chk a = 0 ∧ chk b = 0 := by
  unfold chkAll chkAll chkAll
  by_cases h1 : chk a = 0
  · by_cases h2 : chk b = 0 <;> simp [h1, h2]
  · simp [h1]
theorem cmp_ok {a b : Vl} (h : chkAll [a, b] = 0) : CM.cmp a b = CM.ord a b := if_pos h
end LG
end Go.Proofs.YtoepifbpchpfkaaGreatDoor
namespace Go.Proofs.YtoepifbpchpfkaaGreatDoor
open Go.ChangeShapes Go.WideShapes Go.ChangeAt Go.RowKit
set_option linter.unusedVariables false
set_option linter.unusedSimpArgs false
set_option maxRecDepth 100000 in
set_option maxHeartbeats 1000000 in
theorem rcheckAll_any (v : Value) (l : List VM.Vl) (w : World) (hr : IsRow w v l) (hbig : l.length ≤ 9223372036854775807) :
    Calls Tryz.prog 63 #[v] w fun e w' => e = .returned (.int .i64 (VM.chkAll l)) ∧ Fr w w' := by
  obtain ⟨a, cap, rfl, hcs⟩ := hr
  have HC : Hid _ := hcs
  clear hcs
  go_enter Tryz.func63, Tryz.ntmps63
  go_wp2_with fail
  go_loopw [3] (fun iv wr => ∃ i : Nat, iv = .int .i64 i ∧ i ≤ l.length ∧ VM.chkAll l = VM.chkAll (l.drop i) ∧ Fr w wr) (fun iv _ => l.length - (intOf iv).toNat)
  case atStart => exact ⟨0, rfl, Nat.zero_le _, rfl, Fr.refl _⟩
  case round =>
    obtain ⟨i, rfl, hi, hall, hfr⟩ := hrel
    by_cases hlt : i < l.length
    · obtain ⟨b, o, rfl, hb, hc⟩ : ∃ b o, a = some ⟨b, o, none⟩ ∧ b < w.heap.size ∧ CellsAt w b o l := by
        rcases HC.out with h | h
        · subst h; simp at hlt
        · exact h
      obtain ⟨c0, c1, c2⟩ := (hc.fr hb hfr) i hlt
      have HA : Hid _ := hall
      have HF : Hid _ := hfr
      clear hall hfr hc
      have hchk := fun W => rcheck_any l[i].k l[i].n l[i].s W
      generalize hx : l[i] = x at c0 c1 c2 hchk
      obtain ⟨k, n, s⟩ := x
      simp only at c0 c1 c2 hchk
      have HX : Hid _ := hx
      clear hx
      go_wp2_with (go_at_call 86; refine (hchk _).mono ?_)
      rintro e w1 ⟨rfl, hf1⟩
      have hfr' : Fr w w1 := Fr.trans HF.out hf1
      have hdrop : VM.chkAll (l.drop i) = if VM.chk ⟨k, n, s⟩ = 0 then VM.chkAll (l.drop (i + 1)) else VM.chk ⟨k, n, s⟩ := by
        rw [List.drop_eq_getElem_cons hlt, HX.out]
        rfl
      have HD : Hid _ := HA.out.trans hdrop
      clear hdrop HA HF hf1 c0 c1 c2
      by_cases he : VM.chk ⟨k, n, s⟩ = 0
      · have HD' : Hid _ := HD.out.trans (if_pos he)
        clear HD
        rw [he]
        go_wp2_with fail
        go_roundw
        case rel => exact ⟨i + 1, by go_num, by omega, HD'.out, hfr'⟩
        case measure => simp [intOf]; omega
      · have HD' : Hid _ := HD.out.trans (if_neg he)
        clear HD
        generalize hy : VM.chk ⟨k, n, s⟩ = y at *
        have hne : ((y : Int) != 0) = true := by simp; omega
        have hne2 : ¬ ((y : Int) = 0) := by omega
        go_wp2_with fail
        go_ret
        refine ⟨ret_int ?_, hfr'⟩
        rw [HD'.out]
    · have hnil : VM.chkAll l = 0 := by
        rw [hall, List.drop_of_length_le (by omega)]
        rfl
      have HN : Hid _ := hnil
      have hi' : i = l.length := by omega
      clear hall hnil
      subst hi'
      go_wp2_with fail
      go_ret
      refine ⟨ret_int ?_, hfr⟩
      rw [HN.out]
      rfl


theorem cb_step (a b : ByteArray) (i : Nat) (ha : i < a.size) (hb : i < b.size) :
    Lib.compareBytes (a.data.toList.drop i) (b.data.toList.drop i) = if a[i].toNat < b[i].toNat then -1 else if b[i].toNat < a[i].toNat then 1 else Lib.compareBytes (a.data.toList.drop (i + 1)) (b.data.toList.drop (i + 1)) := by
  have ea : a.data.toList.drop i = a[i] :: a.data.toList.drop (i + 1) := by
    rw [List.drop_eq_getElem_cons (by simpa using ha)]
    rfl
  have eb : b.data.toList.drop i = b[i] :: b.data.toList.drop (i + 1) := by
    rw [List.drop_eq_getElem_cons (by simpa using hb)]
    rfl
  rw [ea, eb]
  conv => lhs; unfold Lib.compareBytes
  simp only [UInt8.lt_iff_toNat_lt]
theorem cb_left (a b : ByteArray) (i : Nat) (ha : i ≤ a.size) (hb : i ≤ b.size) (h : i = a.size ∨ i = b.size) :
    (Lib.compareBytes (a.data.toList.drop i) (b.data.toList.drop i) < 0) ↔ a.size < b.size := by
  have la : (a.data.toList.drop i).length = a.size - i := by rw [List.length_drop, Array.length_toList]; rfl
  have lb : (b.data.toList.drop i).length = b.size - i := by rw [List.length_drop, Array.length_toList]; rfl
  generalize a.data.toList.drop i = x at *
  generalize b.data.toList.drop i = y at *
  cases x with
  | nil =>
    cases y with
    | nil => simp [Lib.compareBytes] at *; omega
    | cons c t => simp [Lib.compareBytes] at *; omega
  | cons c t =>
    cases y with
    | nil => simp [Lib.compareBytes] at *; omega
    | cons d u => simp at la lb; omega

set_option maxRecDepth 100000 in
set_option maxHeartbeats 1000000 in
theorem textLess_any (a b : ByteArray) (w : World) (ha : a.size ≤ maxLen) (hb : b.size ≤ maxLen) :
    Calls Tryz.prog 96 #[.string a, .string b] w fun e w' => e = .returned (.bool (decide (Lib.compareBytes a.data.toList b.data.toList < 0))) ∧ Fr w w' := by
  unfold maxLen at ha hb
  go_enter Tryz.func96, Tryz.ntmps96
  go_wp2_with fail
  go_loopw [5] (fun iv wr => ∃ i : Nat, iv = .int .i64 i ∧ i ≤ a.size ∧ i ≤ b.size ∧ Lib.compareBytes a.data.toList b.data.toList = Lib.compareBytes (a.data.toList.drop i) (b.data.toList.drop i) ∧ Fr w wr) (fun iv _ => a.size - (intOf iv).toNat)
  case atStart => exact ⟨0, rfl, Nat.zero_le _, Nat.zero_le _, rfl, Fr.refl _⟩
  case round =>
    obtain ⟨i, rfl, hi, hj, hcb, hfr⟩ := hrel
    have HF : Hid _ := hfr
    clear hfr
    by_cases hlt : i < a.size ∧ i < b.size
    · obtain ⟨h1, h2⟩ := hlt
      have hst := cb_step a b i h1 h2
      rw [← hcb] at hst
      have HS : Hid _ := hst
      have h1' : (i : Int) < (a.size : Int) := by omega
      have h2' : (i : Int) < (b.size : Int) := by omega
      clear hst hcb
      rcases Nat.lt_trichotomy a[i].toNat b[i].toNat with h | h | h
      · have HE : Hid _ := HS.out.trans (if_pos h)
        have q1 : ((a[i].toNat : Int) != (b[i].toNat : Int)) = true := by simp; omega
        have q2 : (a[i].toNat : Int) < (b[i].toNat : Int) := by omega
        have q3 : ¬ a[i].toNat = b[i].toNat := by omega
        clear HS h
        go_wp2_with fail
        go_region
        go_wp2_with fail
        go_region
        go_wp2_with fail
        go_ret
        exact ⟨ret_bool (by rw [HE.out]; rfl), Fr.drew (Fr.drew HF.out)⟩
      · have HE : Hid _ := HS.out.trans ((if_neg (by omega)).trans (if_neg (by omega)))
        have q1 : ((a[i].toNat : Int) != (b[i].toNat : Int)) = false := by simp; omega
        clear HS
        go_wp2_with fail
        go_region
        go_wp2_with fail
        go_roundw
        case rel => exact ⟨i + 1, by go_num, by omega, by omega, HE.out, Fr.drew HF.out⟩
        case measure => simp [intOf]; omega
      · have HE : Hid _ := HS.out.trans ((if_neg (by omega)).trans (if_pos h))
        have q1 : ((a[i].toNat : Int) != (b[i].toNat : Int)) = true := by simp; omega
        have q2 : (b[i].toNat : Int) ≤ (a[i].toNat : Int) := by omega
        have q3 : ¬ a[i].toNat = b[i].toNat := by omega
        clear HS h
        go_wp2_with fail
        go_region
        go_wp2_with fail
        go_region
        go_wp2_with fail
        go_ret
        exact ⟨ret_bool (by rw [HE.out, decide_eq_decide]; omega), Fr.drew (Fr.drew HF.out)⟩
    · have he : i = a.size ∨ i = b.size := by omega
      have hd := cb_left a b i hi hj he
      rw [← hcb] at hd
      have HD : Hid _ := hd
      clear hd hcb
      have hz : ((a.size : Int) ≤ (i : Int)) ∨ ((i : Int) < (a.size : Int) ∧ (b.size : Int) ≤ (i : Int)) := by omega
      clear hlt he
      rcases hz with h | ⟨h, h'⟩
      · go_wp2_with fail
        go_ret
        exact ⟨ret_bool (by rw [decide_eq_decide, HD.out]), HF.out⟩
      · go_wp2_with fail
        go_ret
        exact ⟨ret_bool (by rw [decide_eq_decide, HD.out]), HF.out⟩
end Go.Proofs.YtoepifbpchpfkaaGreatDoor
namespace Go.Proofs.YtoepifbpchpfkaaGreatDoor
open Go.ChangeShapes Go.WideShapes Go.ChangeAt Go.RowKit
set_option linter.unusedVariables false
set_option linter.unusedSimpArgs false

theorem ci_self (x : Int) : CM.ci x x = 0 := by unfold CM.ci; rw [if_neg (by omega), if_neg (by omega)]
theorem ci_lt {x y : Int} (h : x ≠ y) : (CM.ci x y < 0 ↔ x < y) ∧ CM.ci x y ≠ 0 := by
  unfold CM.ci
  repeat' split
  all_goals omega
theorem or3_first {x y z : Int} (h : x ≠ 0) : CM.or3 x y z = x := if_pos h
theorem or3_second {y z : Int} (h : y ≠ 0) : CM.or3 0 y z = y := by unfold CM.or3; rw [if_neg (by simp), if_pos h]
theorem or3_third (z : Int) : CM.or3 0 0 z = z := by unfold CM.or3; rw [if_neg (by simp), if_neg (by simp)]
theorem cb_zero : ∀ {l m : List UInt8}, Lib.compareBytes l m = 0 ↔ l = m := by
  intro l
  induction l with
  | nil => intro m; cases m <;> simp [Lib.compareBytes]
  | cons a t ih =>
    intro m
    cases m with
    | nil => simp [Lib.compareBytes]
    | cons b u =>
      conv => lhs; unfold Lib.compareBytes
      simp only [UInt8.lt_iff_toNat_lt]
      by_cases h1 : a.toNat < b.toNat
      · rw [if_pos h1]
        have : a ≠ b := by rintro rfl; omega
        simp [this]
      · rw [if_neg h1]
        by_cases h2 : b.toNat < a.toNat
        · rw [if_pos h2]
          have : a ≠ b := by rintro rfl; omega
          simp [this]
        · rw [if_neg h2]
          obtain rfl : a = b := UInt8.toNat_inj.1 (by omega)
          simp [ih]
theorem ord_zero (a b : VM.Vl) : CM.ord a b = 0 ↔ a.k = b.k ∧ a.n = b.n ∧ a.s = b.s := by
  unfold CM.ord
  have hs : Lib.compareBytes a.s.data.toList b.s.data.toList = 0 ↔ a.s = b.s := by
    rw [cb_zero]
    constructor
    · intro h
      cases hA : a.s
      cases hB : b.s
      rw [hA, hB] at h
      simp only at h
      rw [Array.toList_inj.1 h]
    · intro h; rw [h]
  by_cases h1 : a.k = b.k
  · rw [h1, ci_self]
    by_cases h2 : a.n = b.n
    · rw [h2, ci_self, or3_third, hs]; simp
    · have := ci_lt h2
      rw [or3_second this.2]
      simp [this.2, h2]
  · have := ci_lt h1
    rw [or3_first this.2]
    simp [this.2, h1]

set_option maxRecDepth 100000 in
set_option maxHeartbeats 1000000 in
theorem valueLess_any (a b : VM.Vl) (w : World) (ha : a.s.size ≤ maxLen) (hb : b.s.size ≤ maxLen) :
    Calls Tryz.prog 72 #[a.val, b.val] w fun e w' => e = .returned (.bool (decide (CM.ord a b < 0))) ∧ Fr w w' := by
  obtain ⟨ak, an, sa⟩ := a
  obtain ⟨bk, bn, sb⟩ := b
  have hT := fun W => textLess_any sa sb W ha hb
  have HO : Hid (CM.ord ⟨ak, an, sa⟩ ⟨bk, bn, sb⟩ = CM.or3 (CM.ci ak bk) (CM.ci an bn) (Lib.compareBytes sa.data.toList sb.data.toList)) := rfl
  generalize CM.ord ⟨ak, an, sa⟩ ⟨bk, bn, sb⟩ = o at *
  generalize Lib.compareBytes sa.data.toList sb.data.toList = z at *
  unfold VM.Vl.val
  simp only
  clear ha hb
  by_cases h1 : ak = bk
  · subst h1
    by_cases h2 : an = bn
    · subst h2
      have HE : Hid (o = z) := by
        unfold Hid
        rw [HO.out, ci_self, ci_self, or3_third]
      clear HO
      go_enter Tryz.func72, Tryz.ntmps72
      go_wp2_with (go_at_call 96; refine (hT _).mono ?_)
      rintro _ w1 ⟨rfl, hf1⟩
      go_wp2_with fail
      go_ret
      exact ⟨ret_bool (by rw [HE.out]), Fr.trans (((Fr.refl w).alloc _).alloc _) hf1⟩
    · have hc := ci_lt h2
      have HE : Hid (o < 0 ↔ an < bn) := by
        unfold Hid
        rw [HO.out, ci_self, or3_second hc.2, hc.1]
      have q : (an != bn) = true := by simpa using h2
      clear HO hc hT
      go_enter Tryz.func72, Tryz.ntmps72
      go_wp2_with fail
      go_ret
      exact ⟨ret_bool (by rw [decide_eq_decide, HE.out]), ((Fr.refl w).alloc _).alloc _⟩
  · have hc := ci_lt h1
    have HE : Hid (o < 0 ↔ ak < bk) := by
      unfold Hid
      rw [HO.out, or3_first hc.2, hc.1]
    have q : (ak != bk) = true := by simpa using h1
    clear HO hc hT
    go_enter Tryz.func72, Tryz.ntmps72
    go_wp2_with fail
    go_ret
    exact ⟨ret_bool (by rw [decide_eq_decide, HE.out]), ((Fr.refl w).alloc _).alloc _⟩

set_option maxRecDepth 100000 in
theorem rtruth_any (b : Bool) (w : World) : Calls Tryz.prog 109 #[.bool b] w fun e w' => e = .returned (.int .i64 (if b = true then 2 else 0)) ∧ w' = w := by
  cases b
  · go_enter Tryz.func109, Tryz.ntmps109
    go_wp2_with fail
    go_ret
    exact ⟨rfl, rfl⟩
  · go_enter Tryz.func109, Tryz.ntmps109
    go_wp2_with fail
    go_ret
    exact ⟨rfl, rfl⟩

/-- less and same by the order itself -/
def LG.lto (a b : VM.Vl) : Int := if a.k = 0 ∨ b.k = 0 then 1 else if CM.ord a b < 0 then 2 else 0
def LG.smo (a b : VM.Vl) : Int := if a.k = 0 ∨ b.k = 0 then 1 else if CM.ord a b = 0 then 2 else 0

set_option maxRecDepth 100000 in
set_option maxHeartbeats 1000000 in
theorem lessOf_any (a b : VM.Vl) (w : World) (ha : a.s.size ≤ maxLen) (hb : b.s.size ≤ maxLen) :
    Calls Tryz.prog 184 #[a.val, b.val] w fun e w' => e = .returned (.int .i64 (LG.lto a b)) ∧ Fr w w' := by
  have hv := fun W => valueLess_any a b W ha hb
  have ht := fun W => rtruth_any (decide (CM.ord a b < 0)) W
  have HL : Hid (LG.lto a b = if a.k = 0 ∨ b.k = 0 then 1 else if CM.ord a b < 0 then 2 else 0) := rfl
  generalize LG.lto a b = r at *
  generalize CM.ord a b = o at *
  obtain ⟨ak, an, sa⟩ := a
  obtain ⟨bk, bn, sb⟩ := b
  unfold VM.Vl.val at *
  simp only at *
  clear ha hb
  by_cases h1 : ak = 0
  · have HR : Hid (r = 1) := HL.out.trans (if_pos (Or.inl h1))
    clear HL
    subst h1
    go_enter Tryz.func184, Tryz.ntmps184
    go_wp2_with fail
    go_ret
    exact ⟨ret_int HR.out.symm, ((Fr.refl w).alloc _).alloc _⟩
  have q1 : (ak == 0) = false := by simpa using h1
  by_cases h2 : bk = 0
  · have HR : Hid (r = 1) := HL.out.trans (if_pos (Or.inr h2))
    clear HL
    subst h2
    go_enter Tryz.func184, Tryz.ntmps184
    go_wp2_with fail
    go_ret
    exact ⟨ret_int HR.out.symm, ((Fr.refl w).alloc _).alloc _⟩
  have q2 : (bk == 0) = false := by simpa using h2
  have HL2 : Hid (r = if o < 0 then 2 else 0) := HL.out.trans (if_neg (by omega))
  clear HL h1 h2
  generalize hd : decide (o < 0) = d at *
  have HD : Hid (r = if d = true then 2 else 0) := by
    unfold Hid
    rw [HL2.out, ← hd]
    simp
  clear HL2 hd
  go_enter Tryz.func184, Tryz.ntmps184
  go_wp2_with (go_at_call 72; refine (hv _).mono ?_)
  rintro _ w1 ⟨rfl, hf1⟩
  have HF : Hid (Fr w w1) := Fr.trans (((Fr.refl w).alloc _).alloc _) hf1
  clear hf1
  generalize (if d = true then (2 : Int) else 0) = y at *
  go_wp2_with (go_at_call 109; refine (ht _).mono ?_)
  rintro _ w2 ⟨rfl, rfl⟩
  go_wp2_with fail
  go_ret
  exact ⟨ret_int HD.out.symm, HF.out⟩

set_option maxRecDepth 100000 in
set_option maxHeartbeats 1000000 in
theorem sameOf_any (a b : VM.Vl) (w : World) :
    Calls Tryz.prog 183 #[a.val, b.val] w fun e w' => e = .returned (.int .i64 (LG.smo a b)) ∧ Fr w w' := by
  have HZ : Hid _ := ord_zero a b
  have HL : Hid (LG.smo a b = if a.k = 0 ∨ b.k = 0 then 1 else if CM.ord a b = 0 then 2 else 0) := rfl
  generalize LG.smo a b = r at *
  generalize CM.ord a b = o at *
  obtain ⟨ak, an, sa⟩ := a
  obtain ⟨bk, bn, sb⟩ := b
  unfold VM.Vl.val at *
  simp only at *
  by_cases h1 : ak = 0
  · have HR : Hid (r = 1) := HL.out.trans (if_pos (Or.inl h1))
    clear HL
    subst h1
    go_enter Tryz.func183, Tryz.ntmps183
    go_wp2_with fail
    go_ret
    exact ⟨ret_int HR.out.symm, ((Fr.refl w).alloc _).alloc _⟩
  have q1 : (ak == 0) = false := by simpa using h1
  by_cases h2 : bk = 0
  · have HR : Hid (r = 1) := HL.out.trans (if_pos (Or.inr h2))
    clear HL
    subst h2
    go_enter Tryz.func183, Tryz.ntmps183
    go_wp2_with fail
    go_ret
    exact ⟨ret_int HR.out.symm, ((Fr.refl w).alloc _).alloc _⟩
  have q2 : (bk == 0) = false := by simpa using h2
  have HL2 : Hid (r = if o = 0 then 2 else 0) := HL.out.trans (if_neg (by omega))
  clear HL h1 h2
  have tT := fun W => rtruth_any true W
  have tF := fun W => rtruth_any false W
  simp only [if_true, Bool.false_eq_true, if_false] at tT tF
  by_cases e1 : ak = bk
  · subst e1
    by_cases e2 : an = bn
    · subst e2
      by_cases e3 : sa = sb
      · subst e3
        have HR : Hid (r = 2) := HL2.out.trans (if_pos (HZ.out.2 ⟨rfl, rfl, rfl⟩))
        clear HL2 HZ tF
        go_enter Tryz.func183, Tryz.ntmps183
        go_wp2_with (go_at_call 109; refine (tT _).mono ?_)
        rintro _ w2 ⟨rfl, rfl⟩
        go_wp2_with fail
        go_ret
        exact ⟨ret_int HR.out.symm, ((Fr.refl w).alloc _).alloc _⟩
      · have HR : Hid (r = 0) := HL2.out.trans (if_neg (fun h => e3 (HZ.out.1 h).2.2))
        have e4 : ¬ sa.toList = sb.toList := by
          rw [ByteArray.toList_eq, ByteArray.toList_eq]
          intro h
          apply e3
          cases sa
          cases sb
          simp only at h
          rw [Array.toList_inj.1 h]
        clear HL2 HZ tT e3
        go_enter Tryz.func183, Tryz.ntmps183
        go_wp2_with (go_at_call 109; refine (tF _).mono ?_)
        rintro _ w2 ⟨rfl, rfl⟩
        go_wp2_with fail
        go_ret
        exact ⟨ret_int HR.out.symm, ((Fr.refl w).alloc _).alloc _⟩
    · have HR : Hid (r = 0) := HL2.out.trans (if_neg (fun h => e2 (HZ.out.1 h).2.1))
      clear HL2 HZ tT
      go_enter Tryz.func183, Tryz.ntmps183
      go_wp2_with (go_at_call 109; refine (tF _).mono ?_)
      rintro _ w2 ⟨rfl, rfl⟩
      go_wp2_with fail
      go_ret
      exact ⟨ret_int HR.out.symm, ((Fr.refl w).alloc _).alloc _⟩
  · have HR : Hid (r = 0) := HL2.out.trans (if_neg (fun h => e1 (HZ.out.1 h).1))
    clear HL2 HZ tT
    go_enter Tryz.func183, Tryz.ntmps183
    go_wp2_with (go_at_call 109; refine (tF _).mono ?_)
    rintro _ w2 ⟨rfl, rfl⟩
    go_wp2_with fail
    go_ret
    exact ⟨ret_int HR.out.symm, ((Fr.refl w).alloc _).alloc _⟩
end Go.Proofs.YtoepifbpchpfkaaGreatDoor
namespace Go.Proofs.YtoepifbpchpfkaaGreatDoor
open Go.ChangeShapes Go.WideShapes Go.ChangeAt Go.RowKit
set_option linter.unusedVariables false
set_option linter.unusedSimpArgs false

theorem map_take (f : VM.Vl → Int) (l : List VM.Vl) (n : Nat) (h : n < l.length) : (l.map f).take (n + 1) = (l.map f).take n ++ [f l[n]] := by
  rw [List.take_succ_eq_append_getElem (by simpa using h)]
  simp

set_option maxRecDepth 100000 in
set_option maxHeartbeats 2000000 in
theorem inOf_any (a : VM.Vl) (v : Value) (l : List VM.Vl) (w : World) (hr : IsRow w v l) (hbig : l.length ≤ 40) :
    Calls Tryz.prog 185 #[a.val, v] w fun e w' => e = .returned (.int .i64 (LG.any (l.map (LG.smo a)))) ∧ Fr w w' := by
  obtain ⟨i0, hi0, hz0, hz1, hz2⟩ := info_parts Tryz.infoElem
  obtain ⟨A, cap, rfl, hcs⟩ := hr
  have HC : Hid _ := hcs
  clear hcs
  have HS : Hid _ := fun b W => sameOf_any a b W
  have HT : Hid _ := map_take (LG.smo a) l
  have HML : Hid ((l.map (LG.smo a)).length = l.length) := by unfold Hid; simp
  generalize l.map (LG.smo a) = M at *
  obtain ⟨ak, an, sa⟩ := a
  unfold VM.Vl.val at *
  simp only
  have HF0 : Hid (Fr w (w.alloc (.cells #[.int .i64 ak, .int .i64 an, .string sa] 33))) := (Fr.refl w).alloc _
  have d0 : (w.alloc (.cells #[.int .i64 ak, .int .i64 an, .string sa] 33)).cell? ⟨w.heap.size, 0, none⟩ = some (.int .i64 ak) := by simp [go_sem]
  have d1 : (w.alloc (.cells #[.int .i64 ak, .int .i64 an, .string sa] 33)).cell? ⟨w.heap.size, 1, none⟩ = some (.int .i64 an) := by simp [go_sem]
  have d2 : (w.alloc (.cells #[.int .i64 ak, .int .i64 an, .string sa] 33)).cell? ⟨w.heap.size, 2, none⟩ = some (.string sa) := by simp [go_sem]
  go_enter Tryz.func185, Tryz.ntmps185
  go_wp2_with fail
  generalize hW : w.alloc (.cells #[.int .i64 ak, .int .i64 an, .string sa] 33) = W at *
  have D0 : Hid _ := d0
  have D1 : Hid _ := d1
  have D2 : Hid _ := d2
  clear d0 d1 d2 hW
  go_loopw [5, 6] (fun ov iv wr => ∃ n : Nat, n ≤ l.length ∧ iv = .int .i64 n ∧ wr.ownsRow W.heap.size 3 1 ov n (intV (M.take n)) ∧ Fr W wr) (fun _ iv _ => l.length - (intOf iv).toNat)
  case atStart => exact ⟨0, Nat.zero_le _, rfl, World.ownsRow_nil _ _ _ _, Fr.refl _⟩
  case round =>
    obtain ⟨n, hn, rfl, hown, hfr⟩ := hrel
    have hle := hfr.size
    by_cases hlt : n < l.length
    · obtain ⟨b, o, rfl, hb, hc⟩ : ∃ b o, A = some ⟨b, o, none⟩ ∧ b < w.heap.size ∧ CellsAt w b o l := by
        rcases HC.out with h | h
        · subst h; simp at hlt
        · exact h
      obtain ⟨c0, c1, c2⟩ := (hc.fr hb (Fr.trans HF0.out hfr)) n hlt
      obtain ⟨g0, g1, g2⟩ := (hc.fr hb HF0.out) n hlt
      have b0 := cell_fr hfr D0.out
      have b1 := cell_fr hfr D1.out
      have b2 := cell_fr hfr D2.out
      have hst := HT.out n hlt
      have hsm := fun W => HS.out l[n] W
      generalize l[n] = x at *
      generalize LG.smo ⟨ak, an, sa⟩ x = y at *
      obtain ⟨xk, xn, xs⟩ := x
      simp only at c0 c1 c2 g0 g1 g2 hsm
      have G0 : Hid _ := g0
      have G1 : Hid _ := g1
      have G2 : Hid _ := g2
      clear g0 g1 g2
      have HR : Hid _ := hst
      have HFR : Hid _ := hfr
      clear hst hc hfr
      go_wp2_with fail
      go_region_held3 (fun W' => W'.cell? ⟨w.heap.size, 0, none⟩ = some (.int .i64 ak) ∧ W'.cell? ⟨w.heap.size, 1, none⟩ = some (.int .i64 an) ∧ W'.cell? ⟨w.heap.size, 2, none⟩ = some (.string sa) ∧ W'.cell? ⟨b, o + n * 3, none⟩ = some (.int .i64 xk) ∧ W'.cell? ⟨b, o + n * 3 + 1, none⟩ = some (.int .i64 xn) ∧ W'.cell? ⟨b, o + n * 3 + 2, none⟩ = some (.string xs)) (first | assumption | (refine ⟨?_, ?_, ?_, ?_, ?_, ?_⟩ <;> first | assumption | exact cell_fr (by assumption) (by assumption) | exact k_alloc (by assumption) _ | exact k_alloc (cell_fr (by assumption) (by assumption)) _)) (first
        | (go_at_call 183; refine (hsm _).mono ?_; rintro e w2 ⟨rfl, hf2⟩; have s0 := cell_fr hf2 b0; have s1 := cell_fr hf2 b1; have s2 := cell_fr hf2 b2; have s3 := cell_fr hf2 c0; have s4 := cell_fr hf2 c1; have s5 := cell_fr hf2 c2; have hown2 : w2.ownsRow W.heap.size 3 1 u5 n (intV (M.take n)) := own_fr hown (Fr.trans ((Fr.refl _).drew) hf2); have HF2 : Hid (Fr W w2) := Fr.trans (Fr.drew HFR.out) hf2)
        | (refine step_append_own rfl _ _ 61 rfl W.heap.size 3 i0 (.int .i64 0) 1 8 Tryz.underlying61 hi0 hz0 hz1 hz2 rfl (by decide) _ _ _ rfl (hown2.alloc _) ⟨w2.heap.size, 0, none⟩ 1 1 [.int .i64 y] rfl rfl (cell_one_new _ _ _) (by intro u hu; simp at hu; subst hu; rfl) (by unfold maxLen; omega) (by omega) (by have := Fr.size HF2.out; simp; omega) ?_; intro v' w3 hown' hgrow; have hf3 : Fr W w3 := Below.grown (Fr.alloc HF2.out _) hgrow (by have := Fr.size HF2.out; simp; omega) (fun k hk => (hown2.lt k hk).1); have t0 := cell_fr hf3 D0.out; have t1 := cell_fr hf3 D1.out; have t2 := cell_fr hf3 D2.out; have t3 := cell_fr hf3 G0.out; have t4 := cell_fr hf3 G1.out; have t5 := cell_fr hf3 G2.out))
      have ho : w3.ownsRow W.heap.size 3 1 v' (n + 1) (intV (M.take (n + 1))) := by rw [HR.out, intV_app]; exact hown'
      have HO2 : Hid _ := ho
      have HF3 : Hid _ := hf3
      clear ho hown' hgrow hown hown2 hf3 hf2 s0 s1 s2 s3 s4 s5 t0 t1 t2 t3 t4 t5 b0 b1 b2 c0 c1 c2
      go_wp2_with fail
      go_roundw
      case rel => exact ⟨n + 1, by omega, by go_num, HO2.out, HF3.out⟩
      case measure => simp [intOf]; omega
    · obtain rfl : n = l.length := by omega
      rw [List.take_of_length_le (by rw [HML.out]; exact Nat.le_refl _)] at hown
      have hrow := ints_of_own hown
      have ht := truthAny_any _ M wr hrow (by rw [HML.out]; omega)
      have HF : Hid (Fr w wr) := Fr.trans HF0.out hfr
      clear hown hrow hfr HT HS HC HML
      go_wp2_with (go_at_call 149; refine ht.mono ?_)
      rintro _ w2 ⟨rfl, rfl⟩
      go_wp2_with fail
      go_ret
      exact ⟨rfl, HF.out⟩
end Go.Proofs.YtoepifbpchpfkaaGreatDoor
namespace Go.Proofs.YtoepifbpchpfkaaGreatDoor
open Go.ChangeShapes Go.WideShapes Go.ChangeAt Go.RowKit
set_option linter.unusedVariables false
set_option linter.unusedSimpArgs false

theorem lit_ints2 (W : World) (x y : Int) : IsInts (W.alloc (.cells #[.int .i64 x, .int .i64 y] 3)) (.slice (some ⟨W.heap.size, 0, none⟩) 2 2) [x, y] := by
  refine ⟨_, _, rfl, Nat.le_refl _, Or.inr ⟨W.heap.size, 0, rfl, by simp, ?_⟩⟩
  intro i hi
  match i, hi with
  | 0, _ => simp [go_sem]
  | 1, _ => simp [go_sem]
theorem all_two (x y : Int) : LG.all [x, y] = LG.and x y := by
  show LG.and x (LG.and y 2) = _
  rw [LG.and_two]
  show min (LG.kn x) (LG.kn (LG.kn y)) = _
  rw [LG.kn_kn]
  rfl

/-- three values in memory, one behind the other -/
def Box3 (W : World) (g : Nat) (ak an bk bn ck cn : Int) (sa sb sc : ByteArray) : Prop :=
  W.cell? ⟨g, 0, none⟩ = some (.int .i64 ak) ∧ W.cell? ⟨g, 1, none⟩ = some (.int .i64 an) ∧ W.cell? ⟨g, 2, none⟩ = some (.string sa) ∧ W.cell? ⟨g + 1, 0, none⟩ = some (.int .i64 bk) ∧ W.cell? ⟨g + 1, 1, none⟩ = some (.int .i64 bn) ∧ W.cell? ⟨g + 1, 2, none⟩ = some (.string sb) ∧ W.cell? ⟨g + 1 + 1, 0, none⟩ = some (.int .i64 ck) ∧ W.cell? ⟨g + 1 + 1, 1, none⟩ = some (.int .i64 cn) ∧ W.cell? ⟨g + 1 + 1, 2, none⟩ = some (.string sc)
theorem Box3.fr {W W' : World} {g : Nat} {ak an bk bn ck cn : Int} {sa sb sc : ByteArray} (h : Box3 W g ak an bk bn ck cn sa sb sc) (f : Fr W W') : Box3 W' g ak an bk bn ck cn sa sb sc :=
  ⟨cell_fr f h.1, cell_fr f h.2.1, cell_fr f h.2.2.1, cell_fr f h.2.2.2.1, cell_fr f h.2.2.2.2.1, cell_fr f h.2.2.2.2.2.1, cell_fr f h.2.2.2.2.2.2.1, cell_fr f h.2.2.2.2.2.2.2.1, cell_fr f h.2.2.2.2.2.2.2.2⟩

theorem Box3.al {W : World} {g : Nat} {ak an bk bn ck cn : Int} {sa sb sc : ByteArray} (h : Box3 W g ak an bk bn ck cn sa sb sc) (o : Obj) : Box3 (W.alloc o) g ak an bk bn ck cn sa sb sc :=
  h.fr ((Fr.refl W).alloc o)

theorem lessOf_f (ak an bk bn : Int) (sa sb : ByteArray) (w : World) (ha : sa.size ≤ maxLen) (hb : sb.size ≤ maxLen) :
    Calls Tryz.prog 184 #[.agg #[.int .i64 ak, .int .i64 an, .string sa], .agg #[.int .i64 bk, .int .i64 bn, .string sb]] w fun e w' => e = .returned (.int .i64 (LG.lto ⟨ak, an, sa⟩ ⟨bk, bn, sb⟩)) ∧ Fr w w' := lessOf_any ⟨ak, an, sa⟩ ⟨bk, bn, sb⟩ w ha hb
theorem all_lit (x y : Int) (W : World) : Calls Tryz.prog 148 #[.slice (some ⟨W.heap.size, 0, none⟩) 2 2] (W.alloc (.cells #[.int .i64 x, .int .i64 y] 3)) fun e w' => e = .returned (.int .i64 (LG.and x y)) ∧ w' = W.alloc (.cells #[.int .i64 x, .int .i64 y] 3) := by
  have h := truthAll_any _ _ _ (lit_ints2 W x y) (by simp)
  rw [all_two] at h
  exact h

set_option maxRecDepth 100000 in
set_option maxHeartbeats 2000000 in
theorem betweenOf_any (a b c : VM.Vl) (w : World) (ha : a.s.size ≤ maxLen) (hb : b.s.size ≤ maxLen) (hc : c.s.size ≤ maxLen) :
    Calls Tryz.prog 186 #[a.val, b.val, c.val] w fun e w' => e = .returned (.int .i64 (LG.and (LG.not (LG.lto a b)) (LG.not (LG.lto c a)))) ∧ Fr w w' := by
  obtain ⟨ak, an, sa⟩ := a
  obtain ⟨bk, bn, sb⟩ := b
  obtain ⟨ck, cn, sc⟩ := c
  unfold VM.Vl.val at *
  simp only at ha hb hc ⊢
  have HF0 : Hid (Fr w (((w.alloc (.cells #[.int .i64 ak, .int .i64 an, .string sa] 33)).alloc (.cells #[.int .i64 bk, .int .i64 bn, .string sb] 33)).alloc (.cells #[.int .i64 ck, .int .i64 cn, .string sc] 33))) := (((Fr.refl w).alloc _).alloc _).alloc _
  have a0 : (((w.alloc (.cells #[.int .i64 ak, .int .i64 an, .string sa] 33)).alloc (.cells #[.int .i64 bk, .int .i64 bn, .string sb] 33)).alloc (.cells #[.int .i64 ck, .int .i64 cn, .string sc] 33)).cell? ⟨w.heap.size, 0, none⟩ = some (.int .i64 ak) := by simp [go_sem]
  have a1 : (((w.alloc (.cells #[.int .i64 ak, .int .i64 an, .string sa] 33)).alloc (.cells #[.int .i64 bk, .int .i64 bn, .string sb] 33)).alloc (.cells #[.int .i64 ck, .int .i64 cn, .string sc] 33)).cell? ⟨w.heap.size, 1, none⟩ = some (.int .i64 an) := by simp [go_sem]
  have a2 : (((w.alloc (.cells #[.int .i64 ak, .int .i64 an, .string sa] 33)).alloc (.cells #[.int .i64 bk, .int .i64 bn, .string sb] 33)).alloc (.cells #[.int .i64 ck, .int .i64 cn, .string sc] 33)).cell? ⟨w.heap.size, 2, none⟩ = some (.string sa) := by simp [go_sem]
  have b0 : (((w.alloc (.cells #[.int .i64 ak, .int .i64 an, .string sa] 33)).alloc (.cells #[.int .i64 bk, .int .i64 bn, .string sb] 33)).alloc (.cells #[.int .i64 ck, .int .i64 cn, .string sc] 33)).cell? ⟨w.heap.size + 1, 0, none⟩ = some (.int .i64 bk) := by simp [go_sem]
  have b1 : (((w.alloc (.cells #[.int .i64 ak, .int .i64 an, .string sa] 33)).alloc (.cells #[.int .i64 bk, .int .i64 bn, .string sb] 33)).alloc (.cells #[.int .i64 ck, .int .i64 cn, .string sc] 33)).cell? ⟨w.heap.size + 1, 1, none⟩ = some (.int .i64 bn) := by simp [go_sem]
  have b2 : (((w.alloc (.cells #[.int .i64 ak, .int .i64 an, .string sa] 33)).alloc (.cells #[.int .i64 bk, .int .i64 bn, .string sb] 33)).alloc (.cells #[.int .i64 ck, .int .i64 cn, .string sc] 33)).cell? ⟨w.heap.size + 1, 2, none⟩ = some (.string sb) := by simp [go_sem]
  have c0 : (((w.alloc (.cells #[.int .i64 ak, .int .i64 an, .string sa] 33)).alloc (.cells #[.int .i64 bk, .int .i64 bn, .string sb] 33)).alloc (.cells #[.int .i64 ck, .int .i64 cn, .string sc] 33)).cell? ⟨w.heap.size + 1 + 1, 0, none⟩ = some (.int .i64 ck) := by simp [go_sem]
  have c1 : (((w.alloc (.cells #[.int .i64 ak, .int .i64 an, .string sa] 33)).alloc (.cells #[.int .i64 bk, .int .i64 bn, .string sb] 33)).alloc (.cells #[.int .i64 ck, .int .i64 cn, .string sc] 33)).cell? ⟨w.heap.size + 1 + 1, 1, none⟩ = some (.int .i64 cn) := by simp [go_sem]
  have c2 : (((w.alloc (.cells #[.int .i64 ak, .int .i64 an, .string sa] 33)).alloc (.cells #[.int .i64 bk, .int .i64 bn, .string sb] 33)).alloc (.cells #[.int .i64 ck, .int .i64 cn, .string sc] 33)).cell? ⟨w.heap.size + 1 + 1, 2, none⟩ = some (.string sc) := by simp [go_sem]
  go_enter Tryz.func186, Tryz.ntmps186
  go_wp2_with fail
  generalize ((w.alloc (.cells #[.int .i64 ak, .int .i64 an, .string sa] 33)).alloc (.cells #[.int .i64 bk, .int .i64 bn, .string sb] 33)).alloc (.cells #[.int .i64 ck, .int .i64 cn, .string sc] 33) = w1 at *
  have B1 : Box3 w1 w.heap.size ak an bk bn ck cn sa sb sc := ⟨a0, a1, a2, b0, b1, b2, c0, c1, c2⟩
  have HB : Hid (Box3 w1.drew w.heap.size ak an bk bn ck cn sa sb sc) := B1
  clear B1
  go_region_held3 (fun W' => W'.cell? ⟨w.heap.size, 0, none⟩ = some (.int .i64 ak) ∧ W'.cell? ⟨w.heap.size, 1, none⟩ = some (.int .i64 an) ∧ W'.cell? ⟨w.heap.size, 2, none⟩ = some (.string sa) ∧ W'.cell? ⟨w.heap.size + 1, 0, none⟩ = some (.int .i64 bk) ∧ W'.cell? ⟨w.heap.size + 1, 1, none⟩ = some (.int .i64 bn) ∧ W'.cell? ⟨w.heap.size + 1, 2, none⟩ = some (.string sb) ∧ W'.cell? ⟨w.heap.size + 1 + 1, 0, none⟩ = some (.int .i64 ck) ∧ W'.cell? ⟨w.heap.size + 1 + 1, 1, none⟩ = some (.int .i64 cn) ∧ W'.cell? ⟨w.heap.size + 1 + 1, 2, none⟩ = some (.string sc)) (first | exact HB.out | exact Box3.fr HB.out (by assumption) | exact Box3.fr (Box3.fr HB.out (by assumption)) (by assumption) | exact Box3.al (Box3.fr (Box3.fr HB.out (by assumption)) (by assumption)) _) (first
    | (go_at_call 184; refine (lessOf_f _ _ _ _ _ _ _ (by assumption) (by assumption)).mono ?_; rintro e w2 ⟨rfl, hf2⟩)
    | (go_at_call 147; refine (truthNot_any _ _).mono ?_; rintro e w4 ⟨rfl, rfl⟩)
    | (go_at_call 148; refine (all_lit _ _ _).mono ?_; rintro e w6 ⟨rfl, rfl⟩))
  all_goals
    go_wp2_with fail
    go_ret
    exact ⟨rfl, Fr.alloc (by repeat (first | exact Fr.refl _ | assumption | exact HF0.out | exact Fr.drew HF0.out | refine Fr.trans ?_ (by assumption))) _⟩
end Go.Proofs.YtoepifbpchpfkaaGreatDoor
namespace Go.Proofs.YtoepifbpchpfkaaGreatDoor
open Go.ChangeShapes Go.WideShapes Go.ChangeAt Go.RowKit
set_option linter.unusedVariables false
set_option maxRecDepth 100000

theorem two_in {x : Int} (h : WH.Ok x) : two x = .tuple #[.int .i64 x, .int .i64 0] := by
  unfold two
  rw [WH.val_ok h, WH.err_ok h]
theorem two_out {x : Int} (h : ¬ WH.Ok x) : two x = .tuple #[.int .i64 0, .int .i64 8] := by
  unfold two
  rw [WH.val_over h, WH.err_over h]

set_option maxHeartbeats 400000 in
theorem plusOf_any (a b : Int) (w : World) (ha : WH.Ok a) (hb : WH.Ok b) :
    Calls Tryz.prog 177 #[.int .i64 a, .int .i64 b] w fun e w' => e = .returned (two (a + b)) ∧ w' = w := by
  obtain ⟨ha0, ha1⟩ := ha
  obtain ⟨hb0, hb1⟩ := hb
  rcases WH.ok_em (a + b) with ho | ho
  · rw [two_in ho]
    have hw := WH.wrap_ok ho
    obtain ⟨o0, o1⟩ := ho
    by_cases h1 : 0 < b
    · have e1 : wrap64 (9223372036854775807 - b) = 9223372036854775807 - b := WH.wrap_ok ⟨by omega, by omega⟩
      have t1 : ¬ 9223372036854775807 - b < a := by omega
      have t2 : ¬ b < 0 := by omega
      go_enter Tryz.func177, Tryz.ntmps177
      go_wp2_with fail
      go_ret2
      exact ⟨by first | rfl | exact ret_two hw rfl, rfl⟩
    by_cases h2 : b < 0
    · have e1 : wrap64 (-9223372036854775808 - b) = -9223372036854775808 - b := WH.wrap_ok ⟨by omega, by omega⟩
      have t1 : ¬ a < -9223372036854775808 - b := by omega
      go_enter Tryz.func177, Tryz.ntmps177
      go_wp2_with fail
      go_ret2
      exact ⟨by first | rfl | exact ret_two hw rfl, rfl⟩
    · go_enter Tryz.func177, Tryz.ntmps177
      go_wp2_with fail
      go_ret2
      exact ⟨by first | rfl | exact ret_two hw rfl, rfl⟩
  · rw [two_out ho]
    unfold WH.Ok at ho
    by_cases h1 : 0 < b
    · have e1 : wrap64 (9223372036854775807 - b) = 9223372036854775807 - b := WH.wrap_ok ⟨by omega, by omega⟩
      have t1 : 9223372036854775807 - b < a := by omega
      clear ho
      go_enter Tryz.func177, Tryz.ntmps177
      go_wp2_with fail
      go_ret2
      exact ⟨rfl, rfl⟩
    · have h2 : b < 0 := by omega
      have e1 : wrap64 (-9223372036854775808 - b) = -9223372036854775808 - b := WH.wrap_ok ⟨by omega, by omega⟩
      have t1 : a < -9223372036854775808 - b := by omega
      clear ho
      go_enter Tryz.func177, Tryz.ntmps177
      go_wp2_with fail
      go_ret2
      exact ⟨rfl, rfl⟩

set_option maxHeartbeats 400000 in
theorem minusOf_any (a b : Int) (w : World) (ha : WH.Ok a) (hb : WH.Ok b) :
    Calls Tryz.prog 176 #[.int .i64 a, .int .i64 b] w fun e w' => e = .returned (two (a - b)) ∧ w' = w := by
  obtain ⟨ha0, ha1⟩ := ha
  obtain ⟨hb0, hb1⟩ := hb
  rcases WH.ok_em (a - b) with ho | ho
  · rw [two_in ho]
    have hw := WH.wrap_ok ho
    obtain ⟨o0, o1⟩ := ho
    by_cases h1 : b < 0
    · have e1 : wrap64 (9223372036854775807 + b) = 9223372036854775807 + b := WH.wrap_ok ⟨by omega, by omega⟩
      have t1 : ¬ 9223372036854775807 + b < a := by omega
      have t2 : ¬ 0 < b := by omega
      go_enter Tryz.func176, Tryz.ntmps176
      go_wp2_with fail
      go_ret2
      exact ⟨by first | rfl | exact ret_two hw rfl, rfl⟩
    by_cases h2 : 0 < b
    · have e1 : wrap64 (-9223372036854775808 + b) = -9223372036854775808 + b := WH.wrap_ok ⟨by omega, by omega⟩
      have t1 : ¬ a < -9223372036854775808 + b := by omega
      go_enter Tryz.func176, Tryz.ntmps176
      go_wp2_with fail
      go_ret2
      exact ⟨by first | rfl | exact ret_two hw rfl, rfl⟩
    · go_enter Tryz.func176, Tryz.ntmps176
      go_wp2_with fail
      go_ret2
      exact ⟨by first | rfl | exact ret_two hw rfl, rfl⟩
  · rw [two_out ho]
    unfold WH.Ok at ho
    by_cases h1 : b < 0
    · have e1 : wrap64 (9223372036854775807 + b) = 9223372036854775807 + b := WH.wrap_ok ⟨by omega, by omega⟩
      have t1 : 9223372036854775807 + b < a := by omega
      clear ho
      go_enter Tryz.func176, Tryz.ntmps176
      go_wp2_with fail
      go_ret2
      exact ⟨rfl, rfl⟩
    · have h2 : 0 < b := by omega
      have e1 : wrap64 (-9223372036854775808 + b) = -9223372036854775808 + b := WH.wrap_ok ⟨by omega, by omega⟩
      have t1 : a < -9223372036854775808 + b := by omega
      clear ho
      go_enter Tryz.func176, Tryz.ntmps176
      go_wp2_with fail
      go_ret2
      exact ⟨rfl, rfl⟩

set_option maxHeartbeats 400000 in
theorem overOf_any (a b : Int) (w : World) (ha : WH.Ok a) (hb : WH.Ok b) :
    Calls Tryz.prog 179 #[.int .i64 a, .int .i64 b] w fun e w' => e = .returned (divTwo a b) ∧ w' = w := by
  by_cases h0 : b = 0
  · subst h0
    clear hb ha
    unfold divTwo
    rw [if_pos rfl]
    go_enter Tryz.func179, Tryz.ntmps179
    go_wp2_with fail
    go_ret2
    exact ⟨rfl, rfl⟩
  unfold divTwo
  rw [if_neg h0]
  by_cases h1 : b = -1
  · subst h1
    rw [tdiv_minus]
    obtain ⟨ha0, ha1⟩ := ha
    by_cases h2 : a = -9223372036854775808
    · subst h2
      rw [two_out (by unfold WH.Ok; omega)]
      clear hb ha0 ha1
      go_enter Tryz.func179, Tryz.ntmps179
      go_wp2_with fail
      go_ret2
      exact ⟨rfl, rfl⟩
    · have ho : WH.Ok (-a) := ⟨by omega, by omega⟩
      rw [two_in ho]
      have hw := WH.wrap_ok ho
      have ht := tdiv_minus a
      clear hb ho
      go_enter Tryz.func179, Tryz.ntmps179
      go_wp2_with fail
      go_ret2
      exact ⟨by first | rfl | exact ret_two hw rfl | (rw [ht]; exact ret_two hw rfl), rfl⟩
  · have ho := WH.tdiv_Ok ha h0 h1
    rw [two_in ho]
    have hw := WH.wrap_ok ho
    clear ho
    obtain ⟨ha0, ha1⟩ := ha
    obtain ⟨hb0, hb1⟩ := hb
    by_cases h2 : a = -9223372036854775808
    · subst h2
      go_enter Tryz.func179, Tryz.ntmps179
      go_wp2_with fail
      go_ret2
      exact ⟨ret_two (by rw [← Int.neg_tdiv]; exact hw) rfl, rfl⟩
    · go_enter Tryz.func179, Tryz.ntmps179
      go_wp2_with fail
      go_ret2
      exact ⟨by first | rfl | exact ret_two hw rfl, rfl⟩

theorem left_eq {a b : Int} (ha : WH.Ok a) (h0 : b ≠ 0) (h1 : b ≠ -1) : wrap64 (a - wrap64 (wrap64 (a.tdiv b) * b)) = a.tmod b := by
  rw [WH.wrap_ok (WH.tdiv_Ok ha h0 h1)]
  obtain ⟨e, _⟩ := WH.tmod_near a b h0
  rw [Int.mul_comm] at e
  have hm := tmod_Ok ha h0
  generalize a.tdiv b * b = p at *
  generalize a.tmod b = r at *
  have : wrap64 (a - wrap64 p) = wrap64 (a - p) := by
    rw [wrap64, wrap64, wrap64]
    omega
  rw [this, show a - p = r by omega]
  exact WH.wrap_ok hm

set_option maxHeartbeats 400000 in
theorem leftOf_any (a b : Int) (w : World) (ha : WH.Ok a) (hb : WH.Ok b) :
    Calls Tryz.prog 180 #[.int .i64 a, .int .i64 b] w fun e w' => e = .returned (modTwo a b) ∧ w' = w := by
  by_cases h0 : b = 0
  · subst h0
    clear hb ha
    unfold modTwo
    rw [if_pos rfl]
    go_enter Tryz.func180, Tryz.ntmps180
    go_wp2_with fail
    go_ret2
    exact ⟨rfl, rfl⟩
  unfold modTwo
  rw [if_neg h0]
  by_cases h1 : b = -1
  · subst h1
    have e : a.tmod (-1) = 0 := by rw [Int.tmod_neg]; exact Int.tmod_one a
    rw [e]
    clear hb ha e
    go_enter Tryz.func180, Tryz.ntmps180
    go_wp2_with fail
    go_ret2
    exact ⟨rfl, rfl⟩
  · have hw := left_eq ha h0 h1
    obtain ⟨ha0, ha1⟩ := ha
    obtain ⟨hb0, hb1⟩ := hb
    go_enter Tryz.func180, Tryz.ntmps180
    go_wp2_with fail
    go_ret2
    exact ⟨by first | rfl | exact ret_two hw rfl, rfl⟩

theorem top_pos {a b : Int} (hb : 0 < b) : Int.tdiv 9223372036854775807 b < a ↔ 9223372036854775807 < a * b := by
  rw [Int.tdiv_eq_ediv_of_nonneg (by omega)]
  exact Int.ediv_lt_iff_lt_mul hb
theorem top_neg {a b : Int} (hb : b < 0) : a < Int.tdiv 9223372036854775807 b ↔ 9223372036854775807 < a * b := by
  have e : Int.tdiv 9223372036854775807 b = -Int.tdiv 9223372036854775807 (-b) := by rw [Int.tdiv_neg, Int.neg_neg]
  have h := top_pos (a := -a) (b := -b) (by omega)
  rw [Int.neg_mul_neg] at h
  rw [e, ← h]
  omega
theorem low_pos {a b : Int} (hb : 0 < b) : a < Int.tdiv (-9223372036854775808) b ↔ a * b < -9223372036854775808 := by
  have h : Int.tdiv 9223372036854775808 b < -a ↔ 9223372036854775808 < -a * b := by
    rw [Int.tdiv_eq_ediv_of_nonneg (by omega)]
    exact Int.ediv_lt_iff_lt_mul hb
  have e : Int.tdiv (-9223372036854775808) b = -Int.tdiv 9223372036854775808 b := Int.neg_tdiv ..
  rw [Int.neg_mul] at h
  rw [e]
  generalize a * b = p at *
  omega
theorem top_Ok {b : Int} (hb : WH.Ok b) (h : b ≠ 0) : wrap64 (Int.tdiv 9223372036854775807 b) = Int.tdiv 9223372036854775807 b := by
  by_cases h1 : b = -1
  · subst h1
    rw [tdiv_minus]
    exact WH.wrap_ok ⟨by omega, by omega⟩
  · exact WH.wrap_ok (WH.tdiv_Ok ⟨by omega, by omega⟩ h h1)
theorem low_Ok {b : Int} (h : 0 < b) : wrap64 (Int.tdiv (-9223372036854775808) b) = Int.tdiv (-9223372036854775808) b :=
  WH.wrap_ok (WH.tdiv_Ok ⟨by omega, by omega⟩ (by omega) (by omega))
end Go.Proofs.YtoepifbpchpfkaaGreatDoor
namespace Go.Proofs.YtoepifbpchpfkaaGreatDoor
open Go.ChangeShapes Go.WideShapes Go.ChangeAt Go.RowKit
set_option linter.unusedVariables false
set_option maxRecDepth 100000

set_option maxHeartbeats 400000 in
theorem times_pp (a b : Int) (w : World) (ha : WH.Ok a) (hb : WH.Ok b) (h1 : 0 < a) (h2 : 0 < b) :
    Calls Tryz.prog 178 #[.int .i64 a, .int .i64 b] w fun e w' => e = .returned (two (a * b)) ∧ w' = w := by
  have hz : (a == 0) = false := by simp; omega
  have hz2 : (b == 0) = false := by simp; omega
  have n1 : ¬ a < 0 := by omega
  have n2 : ¬ b < 0 := by omega
  have sg : 0 < a * b := by exact Int.mul_pos h1 h2
  have et := top_Ok hb (show b ≠ 0 by omega)
  have ht : 9223372036854775807 / b < a ↔ 9223372036854775807 < a * b := Int.ediv_lt_iff_lt_mul h2
  rcases WH.ok_em (a * b) with ho | ho
  · rw [two_in ho]
    have hw := WH.wrap_ok ho
    have t1 : ¬ 9223372036854775807 / b < a := by rw [ht]; unfold WH.Ok at ho; omega
    clear ht ho sg
    obtain ⟨ha0, ha1⟩ := ha
    obtain ⟨hb0, hb1⟩ := hb
    go_enter Tryz.func178, Tryz.ntmps178
    go_wp2_with fail
    go_ret2
    exact ⟨by first | rfl | exact ret_two hw rfl, rfl⟩
  · rw [two_out ho]
    have t1 : 9223372036854775807 / b < a := by rw [ht]; unfold WH.Ok at ho; omega
    clear ht ho sg
    obtain ⟨ha0, ha1⟩ := ha
    obtain ⟨hb0, hb1⟩ := hb
    go_enter Tryz.func178, Tryz.ntmps178
    go_wp2_with fail
    go_ret2
    exact ⟨rfl, rfl⟩

set_option maxHeartbeats 400000 in
theorem times_nn (a b : Int) (w : World) (ha : WH.Ok a) (hb : WH.Ok b) (h1 : a < 0) (h2 : b < 0) :
    Calls Tryz.prog 178 #[.int .i64 a, .int .i64 b] w fun e w' => e = .returned (two (a * b)) ∧ w' = w := by
  have hz : (a == 0) = false := by simp; omega
  have hz2 : (b == 0) = false := by simp; omega
  have n1 : ¬ 0 < a := by omega
  have n2 : ¬ 0 < b := by omega
  have sg : 0 < a * b := by exact Int.mul_pos_of_neg_of_neg h1 h2
  have et := top_Ok hb (show b ≠ 0 by omega)
  have ht := top_neg (a := a) h2
  rcases WH.ok_em (a * b) with ho | ho
  · rw [two_in ho]
    have hw := WH.wrap_ok ho
    have t1 : ¬ a < Int.tdiv 9223372036854775807 b := by rw [ht]; unfold WH.Ok at ho; omega
    clear ht ho sg
    obtain ⟨ha0, ha1⟩ := ha
    obtain ⟨hb0, hb1⟩ := hb
    go_enter Tryz.func178, Tryz.ntmps178
    go_wp2_with fail
    go_ret2
    exact ⟨by first | rfl | exact ret_two hw rfl, rfl⟩
  · rw [two_out ho]
    have t1 : a < Int.tdiv 9223372036854775807 b := by rw [ht]; unfold WH.Ok at ho; omega
    clear ht ho sg
    obtain ⟨ha0, ha1⟩ := ha
    obtain ⟨hb0, hb1⟩ := hb
    go_enter Tryz.func178, Tryz.ntmps178
    go_wp2_with fail
    go_ret2
    exact ⟨rfl, rfl⟩

set_option maxHeartbeats 400000 in
theorem times_pn (a b : Int) (w : World) (ha : WH.Ok a) (hb : WH.Ok b) (h1 : 0 < a) (h2 : b < 0) :
    Calls Tryz.prog 178 #[.int .i64 a, .int .i64 b] w fun e w' => e = .returned (two (a * b)) ∧ w' = w := by
  have hz : (a == 0) = false := by simp; omega
  have hz2 : (b == 0) = false := by simp; omega
  have n1 : ¬ a < 0 := by omega
  have n2 : ¬ 0 < b := by omega
  have sg : a * b < 0 := by exact Int.mul_neg_of_pos_of_neg h1 h2
  have ht : b < wrap64 (-Int.tdiv 9223372036854775808 a) ↔ a * b < -9223372036854775808 := by
    have h := low_pos (a := b) h1
    rw [← low_Ok h1, Int.neg_tdiv, Int.mul_comm] at h
    exact h
  rcases WH.ok_em (a * b) with ho | ho
  · rw [two_in ho]
    have hw := WH.wrap_ok ho
    have t1 : ¬ b < wrap64 (-Int.tdiv 9223372036854775808 a) := by rw [ht]; unfold WH.Ok at ho; omega
    clear ht ho sg
    obtain ⟨ha0, ha1⟩ := ha
    obtain ⟨hb0, hb1⟩ := hb
    go_enter Tryz.func178, Tryz.ntmps178
    go_wp2_with fail
    go_ret2
    exact ⟨by first | rfl | exact ret_two hw rfl, rfl⟩
  · rw [two_out ho]
    have t1 : b < wrap64 (-Int.tdiv 9223372036854775808 a) := by rw [ht]; unfold WH.Ok at ho; omega
    clear ht ho sg
    obtain ⟨ha0, ha1⟩ := ha
    obtain ⟨hb0, hb1⟩ := hb
    go_enter Tryz.func178, Tryz.ntmps178
    go_wp2_with fail
    go_ret2
    exact ⟨rfl, rfl⟩

set_option maxHeartbeats 400000 in
theorem times_np (a b : Int) (w : World) (ha : WH.Ok a) (hb : WH.Ok b) (h1 : a < 0) (h2 : 0 < b) :
    Calls Tryz.prog 178 #[.int .i64 a, .int .i64 b] w fun e w' => e = .returned (two (a * b)) ∧ w' = w := by
  have hz : (a == 0) = false := by simp; omega
  have hz2 : (b == 0) = false := by simp; omega
  have n1 : ¬ 0 < a := by omega
  have n2 : ¬ b < 0 := by omega
  have sg : a * b < 0 := by exact Int.mul_neg_of_neg_of_pos h1 h2
  have ht : a < wrap64 (-Int.tdiv 9223372036854775808 b) ↔ a * b < -9223372036854775808 := by
    have h := low_pos (a := a) h2
    rw [← low_Ok h2, Int.neg_tdiv] at h
    exact h
  rcases WH.ok_em (a * b) with ho | ho
  · rw [two_in ho]
    have hw := WH.wrap_ok ho
    have t1 : ¬ a < wrap64 (-Int.tdiv 9223372036854775808 b) := by rw [ht]; unfold WH.Ok at ho; omega
    clear ht ho sg
    obtain ⟨ha0, ha1⟩ := ha
    obtain ⟨hb0, hb1⟩ := hb
    go_enter Tryz.func178, Tryz.ntmps178
    go_wp2_with fail
    go_ret2
    exact ⟨by first | rfl | exact ret_two hw rfl, rfl⟩
  · rw [two_out ho]
    have t1 : a < wrap64 (-Int.tdiv 9223372036854775808 b) := by rw [ht]; unfold WH.Ok at ho; omega
    clear ht ho sg
    obtain ⟨ha0, ha1⟩ := ha
    obtain ⟨hb0, hb1⟩ := hb
    go_enter Tryz.func178, Tryz.ntmps178
    go_wp2_with fail
    go_ret2
    exact ⟨rfl, rfl⟩

theorem timesOf_any (a b : Int) (w : World) (ha : WH.Ok a) (hb : WH.Ok b) :
    Calls Tryz.prog 178 #[.int .i64 a, .int .i64 b] w fun e w' => e = .returned (two (a * b)) ∧ w' = w := by
  by_cases h0 : a = 0
  · subst h0
    rw [Int.zero_mul, two_in ⟨by omega, by omega⟩]
    clear ha hb
    go_enter Tryz.func178, Tryz.ntmps178
    go_wp2_with fail
    go_ret2
    exact ⟨rfl, rfl⟩
  by_cases h1 : b = 0
  · subst h1
    rw [Int.mul_zero, two_in ⟨by omega, by omega⟩]
    clear ha hb
    go_enter Tryz.func178, Tryz.ntmps178
    go_wp2_with fail
    go_ret2
    exact ⟨rfl, rfl⟩
  rcases Int.lt_or_gt_of_ne h0 with ha1 | ha1 <;> rcases Int.lt_or_gt_of_ne h1 with hb1 | hb1
  · exact times_nn a b w ha hb ha1 hb1
  · exact times_np a b w ha hb ha1 hb1
  · exact times_pn a b w ha hb ha1 hb1
  · exact times_pp a b w ha hb ha1 hb1
end Go.Proofs.YtoepifbpchpfkaaGreatDoor
