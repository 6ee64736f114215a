/-
  What the document's own CheckValue, CheckValues, TextLess and ValueLess answer.
-/
import Derived.Test.YthpcdhnaibpjnaaOpen
namespace Go.Proofs.Ythpcdhnaibpjnaa
open Go.ChangeShapes Go.WideShapes Go.ChangeAt Go.RowKit
set_option linter.unusedVariables false
set_option linter.unusedSimpArgs false
set_option maxRecDepth 100000 in
set_option maxHeartbeats 1000000 in
theorem rcheck_any (k n : Int) (s : ByteArray) (w : World) :
    Calls Try.prog 59 #[.agg #[.int .i64 k, .int .i64 n, .string s]] w fun e w' => e = .returned (.int .i64 (VM.chk ⟨k, n, s⟩)) ∧ Fr w w' := by
  have hk : k < 0 ∨ k = 0 ∨ k = 1 ∨ k = 2 ∨ k = 3 ∨ 3 < k := by omega
  by_cases hz : s.size = 0
  · obtain rfl : s = ⟨#[]⟩ := by
      have := (toList_nil s).2 hz
      rw [ByteArray.toList_eq] at this
      cases s
      simp_all
    clear hz
    rcases hk with hk | rfl | rfl | rfl | rfl | hk
    all_goals
      go_enter Try.func59, Try.ntmps59
      go_wp2
      all_goals
        go_ret
        refine ⟨ret_int ?_, (Fr.refl _).alloc _⟩
        try simp only [Bool.or_eq_true, Bool.and_eq_true, beq_iff_eq, bne_iff_ne, decide_eq_true_eq, Bool.not_eq_true', Bool.or_eq_false_iff, beq_eq_false_iff_ne] at *
        unfold VM.chk
        simp only [show (⟨#[]⟩ : ByteArray).size = 0 from rfl]
        repeat' split
        all_goals first | rfl | omega | (exfalso; simp_all)
  · have h1 : (s.toList == []) = false := by simp only [beq_eq_false_iff_ne, ne_eq, toList_nil]; exact hz
    have h2 : (s.toList != []) = true := by simp only [bne_iff_ne, ne_eq, toList_nil]; exact hz
    have h3 : ¬ s.toList = [] := by rw [toList_nil]; exact hz
    rcases hk with hk | rfl | rfl | rfl | rfl | hk
    all_goals
      go_enter Try.func59, Try.ntmps59
      go_wp2
      all_goals
        clear h1 h2 h3
        go_ret
        refine ⟨ret_int ?_, (Fr.refl _).alloc _⟩
        try simp only [Bool.or_eq_true, Bool.and_eq_true, beq_iff_eq, bne_iff_ne, decide_eq_true_eq, Bool.not_eq_true', Bool.or_eq_false_iff, beq_eq_false_iff_ne, toList_nil] at *
        unfold VM.chk
        simp only
        repeat' split
        all_goals first | rfl | omega | (exfalso; simp_all)
set_option maxRecDepth 100000 in
set_option maxHeartbeats 1000000 in
theorem rcheckAll_any (v : Value) (l : List VM.Vl) (w : World) (hr : IsRow w v l) (hbig : l.length ≤ 9223372036854775807) :
    Calls Try.prog 46 #[v] w fun e w' => e = .returned (.int .i64 (VM.chkAll l)) ∧ Fr w w' := by
  obtain ⟨a, cap, rfl, hcs⟩ := hr
  have HC : Hid _ := hcs
  clear hcs
  go_enter Try.func46, Try.ntmps46
  go_wp2_with fail
  go_loopw [3] (fun iv wr => ∃ i : Nat, iv = .int .i64 i ∧ i ≤ l.length ∧ VM.chkAll l = VM.chkAll (l.drop i) ∧ Fr w wr) (fun iv _ => l.length - (intOf iv).toNat)
  case atStart => exact ⟨0, rfl, Nat.zero_le _, rfl, Fr.refl _⟩
  case round =>
    obtain ⟨i, rfl, hi, hall, hfr⟩ := hrel
    by_cases hlt : i < l.length
    · obtain ⟨b, o, rfl, hb, hc⟩ : ∃ b o, a = some ⟨b, o, none⟩ ∧ b < w.heap.size ∧ CellsAt w b o l := by
        rcases HC.out with h | h
        · subst h; simp at hlt
        · exact h
      obtain ⟨c0, c1, c2⟩ := (hc.fr hb hfr) i hlt
      have HA : Hid _ := hall
      have HF : Hid _ := hfr
      clear hall hfr hc
      have hchk := fun W => rcheck_any l[i].k l[i].n l[i].s W
      generalize hx : l[i] = x at c0 c1 c2 hchk
      obtain ⟨k, n, s⟩ := x
      simp only at c0 c1 c2 hchk
      have HX : Hid _ := hx
      clear hx
      go_wp2_with (go_at_call 59; refine (hchk _).mono ?_)
      rintro e w1 ⟨rfl, hf1⟩
      have hfr' : Fr w w1 := Fr.trans HF.out hf1
      have hdrop : VM.chkAll (l.drop i) = if VM.chk ⟨k, n, s⟩ = 0 then VM.chkAll (l.drop (i + 1)) else VM.chk ⟨k, n, s⟩ := by
        rw [List.drop_eq_getElem_cons hlt, HX.out]
        rfl
      have HD : Hid _ := HA.out.trans hdrop
      clear hdrop HA HF hf1 c0 c1 c2
      by_cases he : VM.chk ⟨k, n, s⟩ = 0
      · have HD' : Hid _ := HD.out.trans (if_pos he)
        clear HD
        rw [he]
        go_wp2_with fail
        go_roundw
        case rel => exact ⟨i + 1, by go_num, by omega, HD'.out, hfr'⟩
        case measure => simp [intOf]; omega
      · have HD' : Hid _ := HD.out.trans (if_neg he)
        clear HD
        generalize hy : VM.chk ⟨k, n, s⟩ = y at *
        have hne : ((y : Int) != 0) = true := by simp; omega
        have hne2 : ¬ ((y : Int) = 0) := by omega
        go_wp2_with fail
        go_ret
        refine ⟨ret_int ?_, hfr'⟩
        rw [HD'.out]
    · have hnil : VM.chkAll l = 0 := by
        rw [hall, List.drop_of_length_le (by omega)]
        rfl
      have HN : Hid _ := hnil
      have hi' : i = l.length := by omega
      clear hall hnil
      subst hi'
      go_wp2_with fail
      go_ret
      refine ⟨ret_int ?_, hfr⟩
      rw [HN.out]
      rfl

end Go.Proofs.Ythpcdhnaibpjnaa
