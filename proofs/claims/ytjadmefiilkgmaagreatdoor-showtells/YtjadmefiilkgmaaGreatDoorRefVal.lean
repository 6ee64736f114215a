/-
  What the document's own CheckValue, CheckValues, TextLess and ValueLess answer.
-/
import Derived.Test.YtjadmefiilkgmaaGreatDoorOpenV
import Derived.Test.YtjadmefiilkgmaaGreatDoorOrd
namespace Go.Proofs.YtjadmefiilkgmaaGreatDoor
open Go.ChangeShapes Go.WideShapes Go.ChangeAt Go.RowKit
set_option linter.unusedVariables false
set_option linter.unusedSimpArgs false
set_option maxRecDepth 100000 in
set_option maxHeartbeats 1000000 in
theorem rcheck_any (k n : Int) (s : ByteArray) (w : World) :
    Calls Tryz.prog 17 #[.agg #[.int .i64 k, .int .i64 n, .string s]] w fun e w' => e = .returned (.int .i64 (VM.chk ⟨k, n, s⟩)) ∧ Fr w w' := by
  have hk : k < 0 ∨ k = 0 ∨ k = 1 ∨ k = 2 ∨ k = 3 ∨ 3 < k := by omega
  by_cases hz : s.size = 0
  · obtain rfl : s = ⟨#[]⟩ := by
      have := (toList_nil s).2 hz
      rw [ByteArray.toList_eq] at this
      cases s
      simp_all
    clear hz
    rcases hk with hk | rfl | rfl | rfl | rfl | hk
    all_goals
      go_enter Tryz.func17, Tryz.ntmps17
      go_wp2
      all_goals
        go_ret
        refine ⟨ret_int ?_, (Fr.refl _).alloc _⟩
        try simp only [Bool.or_eq_true, Bool.and_eq_true, beq_iff_eq, bne_iff_ne, decide_eq_true_eq, Bool.not_eq_true', Bool.or_eq_false_iff, beq_eq_false_iff_ne] at *
        unfold VM.chk
        simp only [show (⟨#[]⟩ : ByteArray).size = 0 from rfl]
        repeat' split
        all_goals first | rfl | omega | (exfalso; simp_all)
  · have h1 : (s.toList == []) = false := by simp only [beq_eq_false_iff_ne, ne_eq, toList_nil]; exact hz
    have h2 : (s.toList != []) = true := by simp only [bne_iff_ne, ne_eq, toList_nil]; exact hz
    have h3 : ¬ s.toList = [] := by rw [toList_nil]; exact hz
    rcases hk with hk | rfl | rfl | rfl | rfl | hk
    all_goals
      go_enter Tryz.func17, Tryz.ntmps17
      go_wp2
      all_goals
        clear h1 h2 h3
        go_ret
        refine ⟨ret_int ?_, (Fr.refl _).alloc _⟩
        try simp only [Bool.or_eq_true, Bool.and_eq_true, beq_iff_eq, bne_iff_ne, decide_eq_true_eq, Bool.not_eq_true', Bool.or_eq_false_iff, beq_eq_false_iff_ne, toList_nil] at *
        unfold VM.chk
        simp only
        repeat' split
        all_goals first | rfl | omega | (exfalso; simp_all)
set_option maxRecDepth 100000 in
set_option maxHeartbeats 1000000 in
theorem rcheckAll_any (v : Value) (l : List VM.Vl) (w : World) (hr : IsRow w v l) (hbig : l.length ≤ 9223372036854775807) :
    Calls Tryz.prog 13 #[v] w fun e w' => e = .returned (.int .i64 (VM.chkAll l)) ∧ Fr w w' := by
  obtain ⟨a, cap, rfl, hcs⟩ := hr
  have HC : Hid _ := hcs
  clear hcs
  go_enter Tryz.func13, Tryz.ntmps13
  go_wp2_with fail
  go_loopw [3] (fun iv wr => ∃ i : Nat, iv = .int .i64 i ∧ i ≤ l.length ∧ VM.chkAll l = VM.chkAll (l.drop i) ∧ Fr w wr) (fun iv _ => l.length - (intOf iv).toNat)
  case atStart => exact ⟨0, rfl, Nat.zero_le _, rfl, Fr.refl _⟩
  case round =>
    obtain ⟨i, rfl, hi, hall, hfr⟩ := hrel
    by_cases hlt : i < l.length
    · obtain ⟨b, o, rfl, hb, hc⟩ : ∃ b o, a = some ⟨b, o, none⟩ ∧ b < w.heap.size ∧ CellsAt w b o l := by
        rcases HC.out with h | h
        · subst h; simp at hlt
        · exact h
      obtain ⟨c0, c1, c2⟩ := (hc.fr hb hfr) i hlt
      have HA : Hid _ := hall
      have HF : Hid _ := hfr
      clear hall hfr hc
      have hchk := fun W => rcheck_any l[i].k l[i].n l[i].s W
      generalize hx : l[i] = x at c0 c1 c2 hchk
      obtain ⟨k, n, s⟩ := x
      simp only at c0 c1 c2 hchk
      have HX : Hid _ := hx
      clear hx
      go_wp2_with (go_at_call 17; refine (hchk _).mono ?_)
      rintro e w1 ⟨rfl, hf1⟩
      have hfr' : Fr w w1 := Fr.trans HF.out hf1
      have hdrop : VM.chkAll (l.drop i) = if VM.chk ⟨k, n, s⟩ = 0 then VM.chkAll (l.drop (i + 1)) else VM.chk ⟨k, n, s⟩ := by
        rw [List.drop_eq_getElem_cons hlt, HX.out]
        rfl
      have HD : Hid _ := HA.out.trans hdrop
      clear hdrop HA HF hf1 c0 c1 c2
      by_cases he : VM.chk ⟨k, n, s⟩ = 0
      · have HD' : Hid _ := HD.out.trans (if_pos he)
        clear HD
        rw [he]
        go_wp2_with fail
        go_roundw
        case rel => exact ⟨i + 1, by go_num, by omega, HD'.out, hfr'⟩
        case measure => simp [intOf]; omega
      · have HD' : Hid _ := HD.out.trans (if_neg he)
        clear HD
        generalize hy : VM.chk ⟨k, n, s⟩ = y at *
        have hne : ((y : Int) != 0) = true := by simp; omega
        have hne2 : ¬ ((y : Int) = 0) := by omega
        go_wp2_with fail
        go_ret
        refine ⟨ret_int ?_, hfr'⟩
        rw [HD'.out]
    · have hnil : VM.chkAll l = 0 := by
        rw [hall, List.drop_of_length_le (by omega)]
        rfl
      have HN : Hid _ := hnil
      have hi' : i = l.length := by omega
      clear hall hnil
      subst hi'
      go_wp2_with fail
      go_ret
      refine ⟨ret_int ?_, hfr⟩
      rw [HN.out]
      rfl


theorem cb_step (a b : ByteArray) (i : Nat) (ha : i < a.size) (hb : i < b.size) :
    Lib.compareBytes (a.data.toList.drop i) (b.data.toList.drop i) = if a[i].toNat < b[i].toNat then -1 else if b[i].toNat < a[i].toNat then 1 else Lib.compareBytes (a.data.toList.drop (i + 1)) (b.data.toList.drop (i + 1)) := by
  have ea : a.data.toList.drop i = a[i] :: a.data.toList.drop (i + 1) := by
    rw [List.drop_eq_getElem_cons (by simpa using ha)]
    rfl
  have eb : b.data.toList.drop i = b[i] :: b.data.toList.drop (i + 1) := by
    rw [List.drop_eq_getElem_cons (by simpa using hb)]
    rfl
  rw [ea, eb]
  conv => lhs; unfold Lib.compareBytes
  simp only [UInt8.lt_iff_toNat_lt]
theorem cb_left (a b : ByteArray) (i : Nat) (ha : i ≤ a.size) (hb : i ≤ b.size) (h : i = a.size ∨ i = b.size) :
    (Lib.compareBytes (a.data.toList.drop i) (b.data.toList.drop i) < 0) ↔ a.size < b.size := by
  have la : (a.data.toList.drop i).length = a.size - i := by rw [List.length_drop, Array.length_toList]; rfl
  have lb : (b.data.toList.drop i).length = b.size - i := by rw [List.length_drop, Array.length_toList]; rfl
  generalize a.data.toList.drop i = x at *
  generalize b.data.toList.drop i = y at *
  cases x with
  | nil =>
    cases y with
    | nil => simp [Lib.compareBytes] at *; omega
    | cons c t => simp [Lib.compareBytes] at *; omega
  | cons c t =>
    cases y with
    | nil => simp [Lib.compareBytes] at *; omega
    | cons d u => simp at la lb; omega

set_option maxRecDepth 100000 in
set_option maxHeartbeats 1000000 in
theorem textLess_any (a b : ByteArray) (w : World) (ha : a.size ≤ maxLen) (hb : b.size ≤ maxLen) :
    Calls Tryz.prog 59 #[.string a, .string b] w fun e w' => e = .returned (.bool (decide (Lib.compareBytes a.data.toList b.data.toList < 0))) ∧ Fr w w' := by
  unfold maxLen at ha hb
  go_enter Tryz.func59, Tryz.ntmps59
  go_wp2_with fail
  go_loopw [5] (fun iv wr => ∃ i : Nat, iv = .int .i64 i ∧ i ≤ a.size ∧ i ≤ b.size ∧ Lib.compareBytes a.data.toList b.data.toList = Lib.compareBytes (a.data.toList.drop i) (b.data.toList.drop i) ∧ Fr w wr) (fun iv _ => a.size - (intOf iv).toNat)
  case atStart => exact ⟨0, rfl, Nat.zero_le _, Nat.zero_le _, rfl, Fr.refl _⟩
  case round =>
    obtain ⟨i, rfl, hi, hj, hcb, hfr⟩ := hrel
    have HF : Hid _ := hfr
    clear hfr
    by_cases hlt : i < a.size ∧ i < b.size
    · obtain ⟨h1, h2⟩ := hlt
      have hst := cb_step a b i h1 h2
      rw [← hcb] at hst
      have HS : Hid _ := hst
      have h1' : (i : Int) < (a.size : Int) := by omega
      have h2' : (i : Int) < (b.size : Int) := by omega
      clear hst hcb
      rcases Nat.lt_trichotomy a[i].toNat b[i].toNat with h | h | h
      · have HE : Hid _ := HS.out.trans (if_pos h)
        have q1 : ((a[i].toNat : Int) != (b[i].toNat : Int)) = true := by simp; omega
        have q2 : (a[i].toNat : Int) < (b[i].toNat : Int) := by omega
        have q3 : ¬ a[i].toNat = b[i].toNat := by omega
        clear HS h
        go_wp2_with fail
        go_region
        go_wp2_with fail
        go_region
        go_wp2_with fail
        go_ret
        exact ⟨ret_bool (by rw [HE.out]; rfl), Fr.drew (Fr.drew HF.out)⟩
      · have HE : Hid _ := HS.out.trans ((if_neg (by omega)).trans (if_neg (by omega)))
        have q1 : ((a[i].toNat : Int) != (b[i].toNat : Int)) = false := by simp; omega
        clear HS
        go_wp2_with fail
        go_region
        go_wp2_with fail
        go_roundw
        case rel => exact ⟨i + 1, by go_num, by omega, by omega, HE.out, Fr.drew HF.out⟩
        case measure => simp [intOf]; omega
      · have HE : Hid _ := HS.out.trans ((if_neg (by omega)).trans (if_pos h))
        have q1 : ((a[i].toNat : Int) != (b[i].toNat : Int)) = true := by simp; omega
        have q2 : (b[i].toNat : Int) ≤ (a[i].toNat : Int) := by omega
        have q3 : ¬ a[i].toNat = b[i].toNat := by omega
        clear HS h
        go_wp2_with fail
        go_region
        go_wp2_with fail
        go_region
        go_wp2_with fail
        go_ret
        exact ⟨ret_bool (by rw [HE.out, decide_eq_decide]; omega), Fr.drew (Fr.drew HF.out)⟩
    · have he : i = a.size ∨ i = b.size := by omega
      have hd := cb_left a b i hi hj he
      rw [← hcb] at hd
      have HD : Hid _ := hd
      clear hd hcb
      have hz : ((a.size : Int) ≤ (i : Int)) ∨ ((i : Int) < (a.size : Int) ∧ (b.size : Int) ≤ (i : Int)) := by omega
      clear hlt he
      rcases hz with h | ⟨h, h'⟩
      · go_wp2_with fail
        go_ret
        exact ⟨ret_bool (by rw [decide_eq_decide, HD.out]), HF.out⟩
      · go_wp2_with fail
        go_ret
        exact ⟨ret_bool (by rw [decide_eq_decide, HD.out]), HF.out⟩
end Go.Proofs.YtjadmefiilkgmaaGreatDoor
