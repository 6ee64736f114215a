/-
  What less and same of package logic answer of two values, and what they are made of.
-/
import Derived.Test.YtppbmkkkjjkiiaaOrd
import Derived.Test.YtppbmkkkjjkiiaaLg
namespace Go.Proofs.Ytppbmkkkjjkiiaa
open Go.ChangeShapes Go.WideShapes Go.ChangeAt Go.RowKit
set_option linter.unusedVariables false
set_option linter.unusedSimpArgs false

set_option maxRecDepth 100000 in
set_option maxHeartbeats 1000000 in
theorem lcheckAll_any (v : Value) (l : List VM.Vl) (w : World) (hr : IsRow w v l) (hbig : l.length ≤ 9223372036854775807) :
    Calls Try.prog 33 #[v] w fun e w' => e = .returned (.int .i64 (VM.chkAll l)) ∧ Fr w w' := by
  obtain ⟨a, cap, rfl, hcs⟩ := hr
  have HC : Hid _ := hcs
  clear hcs
  go_enter Try.func33, Try.ntmps33
  go_wp2_with fail
  go_loopw [8] (fun iv wr => ∃ i : Nat, iv = .int .i64 i ∧ i ≤ l.length ∧ VM.chkAll l = VM.chkAll (l.drop i) ∧ Fr w wr) (fun iv _ => l.length - (intOf iv).toNat)
  case atStart => exact ⟨0, rfl, Nat.zero_le _, rfl, Fr.refl _⟩
  case round =>
    obtain ⟨i, rfl, hi, hall, hfr⟩ := hrel
    by_cases hlt : i < l.length
    · obtain ⟨b, o, rfl, hb, hc⟩ : ∃ b o, a = some ⟨b, o, none⟩ ∧ b < w.heap.size ∧ CellsAt w b o l := by
        rcases HC.out with h | h
        · subst h; simp at hlt
        · exact h
      obtain ⟨c0, c1, c2⟩ := (hc.fr hb hfr) i hlt
      have HA : Hid _ := hall
      have HF : Hid _ := hfr
      clear hall hfr hc
      have hchk := fun W => check_any l[i].k l[i].n l[i].s W
      generalize hx : l[i] = x at c0 c1 c2 hchk
      obtain ⟨k, n, s⟩ := x
      simp only at c0 c1 c2 hchk
      have HX : Hid _ := hx
      clear hx
      go_wp2_with (go_at_call 36; refine (hchk _).mono ?_)
      rintro e w1 ⟨rfl, hf1⟩
      have hfr' : Fr w w1 := (Fr.alloc HF.out _).trans hf1
      have hdrop : VM.chkAll (l.drop i) = if VM.chk ⟨k, n, s⟩ = 0 then VM.chkAll (l.drop (i + 1)) else VM.chk ⟨k, n, s⟩ := by
        rw [List.drop_eq_getElem_cons hlt, HX.out]
        rfl
      have HD : Hid _ := HA.out.trans hdrop
      clear hdrop HA HF hf1 c0 c1 c2
      by_cases he : VM.chk ⟨k, n, s⟩ = 0
      · have HD' : Hid _ := HD.out.trans (if_pos he)
        clear HD
        rw [he]
        go_wp2_with fail
        go_roundw
        case rel => exact ⟨i + 1, by go_num, by omega, HD'.out, hfr'⟩
        case measure => simp [intOf]; omega
      · have HD' : Hid _ := HD.out.trans (if_neg he)
        clear HD
        generalize hy : VM.chk ⟨k, n, s⟩ = y at *
        have hne : ((y : Int) != 0) = true := by simp; omega
        have hne2 : ¬ ((y : Int) = 0) := by omega
        go_wp2_with fail
        go_ret
        refine ⟨ret_int ?_, hfr'⟩
        rw [HD'.out]
    · have hnil : VM.chkAll l = 0 := by
        rw [hall, List.drop_of_length_le (by omega)]
        rfl
      have HN : Hid _ := hnil
      have hi' : i = l.length := by omega
      clear hall hnil
      subst hi'
      go_wp2_with fail
      go_ret
      refine ⟨ret_int ?_, hfr⟩
      rw [HN.out]
      rfl


/-- less: Unknown with a Null -/
def LG.lt (a b : VM.Vl) : Int := if a.k = 0 ∨ b.k = 0 then 1 else if CM.cmp a b < 0 then 2 else 0
/-- same: Unknown with a Null -/
def LG.sm (a b : VM.Vl) : Int := if a.k = 0 ∨ b.k = 0 then 1 else if CM.cmp a b = 0 then 2 else 0

set_option maxRecDepth 100000 in
theorem lessClo_any (x : Int) (w : World) : Calls Try.prog 40 #[.int .i64 x] w fun e w' => e = .returned (.bool (decide (x < 0))) ∧ w' = w := by
  go_enter Try.func40, Try.ntmps40
  go_wp2_with fail
  go_ret
  exact ⟨rfl, rfl⟩
set_option maxRecDepth 100000 in
theorem sameClo_any (x : Int) (w : World) : Calls Try.prog 41 #[.int .i64 x] w fun e w' => e = .returned (.bool (x == 0)) ∧ w' = w := by
  go_enter Try.func41, Try.ntmps41
  go_wp2_with fail
  go_ret
  exact ⟨rfl, rfl⟩


set_option maxRecDepth 100000 in
set_option maxHeartbeats 1000000 in
theorem told_less (a b : VM.Vl) (w : World) :
    Calls Try.prog 39 #[a.val, b.val, .func (.func 40) #[] #[]] w fun e w' => e = .returned (.int .i64 (LG.lt a b)) ∧ Fr w w' := by
  have hc := fun W => valCompare_any a b W
  have HL : Hid (LG.lt a b = if a.k = 0 ∨ b.k = 0 then 1 else if CM.cmp a b < 0 then 2 else 0) := rfl
  generalize CM.cmp a b = o at *
  generalize VM.chkAll [a, b] = c at *
  generalize LG.lt a b = r at *
  obtain ⟨ak, an, sa⟩ := a
  obtain ⟨bk, bn, sb⟩ := b
  unfold VM.Vl.val at *
  simp only at *
  have f0 : Fr w ((w.alloc (.cells #[.int .i64 ak, .int .i64 an, .string sa] 32)).alloc (.cells #[.int .i64 bk, .int .i64 bn, .string sb] 32)) := ((Fr.refl w).alloc _).alloc _
  have F0 : Hid _ := f0
  clear f0
  by_cases h1 : ak = 0
  · have HR : Hid (r = 1) := HL.out.trans (if_pos (Or.inl h1))
    clear HL
    subst h1
    go_enter Try.func39, Try.ntmps39
    go_wp2_with fail
    go_ret
    exact ⟨ret_int HR.out.symm, F0.out⟩
  have q1 : (ak == 0) = false := by simpa using h1
  by_cases h2 : bk = 0
  · have HR : Hid (r = 1) := HL.out.trans (if_pos (Or.inr h2))
    clear HL
    subst h2
    go_enter Try.func39, Try.ntmps39
    go_wp2_with fail
    go_ret
    exact ⟨ret_int HR.out.symm, F0.out⟩
  have q2 : (bk == 0) = false := by simpa using h2
  have HL2 : Hid (r = if o < 0 then 2 else 0) := HL.out.trans (if_neg (by omega))
  clear HL h1 h2
  by_cases ht : o < 0
  · have HR : Hid (r = 2) := HL2.out.trans (if_pos ht)
    have hcl : ∀ W, Calls Try.prog 40 #[.int .i64 o] W fun e w' => e = .returned (.bool true) ∧ w' = W := fun W => by
      have h := lessClo_any o W
      rw [show (decide (o < 0)) = true by simpa using ht] at h
      exact h
    clear HL2 ht
    go_enter Try.func39, Try.ntmps39
    go_wp2_with (go_at_call 43; refine (hc _).mono ?_)
    rintro _ w1 ⟨rfl, hf1⟩
    have hf : Fr w w1 := (((Fr.refl w).alloc _).alloc _).trans hf1
    have HF : Hid _ := hf
    clear hf1 hf
    go_wp2_with (go_at_call 40; refine (hcl _).mono ?_)
    rintro _ w2 ⟨rfl, rfl⟩
    go_wp2_with fail
    go_ret
    exact ⟨ret_int HR.out.symm, HF.out⟩
  · have HR : Hid (r = 0) := HL2.out.trans (if_neg ht)
    have hcl : ∀ W, Calls Try.prog 40 #[.int .i64 o] W fun e w' => e = .returned (.bool false) ∧ w' = W := fun W => by
      have h := lessClo_any o W
      rw [show (decide (o < 0)) = false by simpa using ht] at h
      exact h
    clear HL2 ht
    go_enter Try.func39, Try.ntmps39
    go_wp2_with (go_at_call 43; refine (hc _).mono ?_)
    rintro _ w1 ⟨rfl, hf1⟩
    have hf : Fr w w1 := (((Fr.refl w).alloc _).alloc _).trans hf1
    have HF : Hid _ := hf
    clear hf1 hf
    go_wp2_with (go_at_call 40; refine (hcl _).mono ?_)
    rintro _ w2 ⟨rfl, rfl⟩
    go_wp2_with fail
    go_ret
    exact ⟨ret_int HR.out.symm, HF.out⟩

set_option maxRecDepth 100000 in
set_option maxHeartbeats 1000000 in
theorem less_any (a b : VM.Vl) (w : World) :
    Calls Try.prog 34 #[a.val, b.val] w fun e w' => e = .returned (.int .i64 (LG.lt a b)) ∧ Fr w w' := by
  have ht := fun W => told_less a b W
  generalize LG.lt a b = r at *
  obtain ⟨ak, an, sa⟩ := a
  obtain ⟨bk, bn, sb⟩ := b
  unfold VM.Vl.val at *
  simp only at *
  have f0 : Fr w ((w.alloc (.cells #[.int .i64 ak, .int .i64 an, .string sa] 32)).alloc (.cells #[.int .i64 bk, .int .i64 bn, .string sb] 32)) := ((Fr.refl w).alloc _).alloc _
  have F0 : Hid _ := f0
  clear f0
  go_enter Try.func34, Try.ntmps34
  go_wp2_with (go_at_call 39; refine (ht _).mono ?_)
  rintro _ w1 ⟨rfl, hf1⟩
  go_wp2_with fail
  go_ret
  exact ⟨rfl, (((Fr.refl w).alloc _).alloc _).trans hf1⟩

set_option maxRecDepth 100000 in
set_option maxHeartbeats 1000000 in
theorem told_same (a b : VM.Vl) (w : World) :
    Calls Try.prog 39 #[a.val, b.val, .func (.func 41) #[] #[]] w fun e w' => e = .returned (.int .i64 (LG.sm a b)) ∧ Fr w w' := by
  have hc := fun W => valCompare_any a b W
  have HL : Hid (LG.sm a b = if a.k = 0 ∨ b.k = 0 then 1 else if CM.cmp a b = 0 then 2 else 0) := rfl
  generalize CM.cmp a b = o at *
  generalize VM.chkAll [a, b] = c at *
  generalize LG.sm a b = r at *
  obtain ⟨ak, an, sa⟩ := a
  obtain ⟨bk, bn, sb⟩ := b
  unfold VM.Vl.val at *
  simp only at *
  have f0 : Fr w ((w.alloc (.cells #[.int .i64 ak, .int .i64 an, .string sa] 32)).alloc (.cells #[.int .i64 bk, .int .i64 bn, .string sb] 32)) := ((Fr.refl w).alloc _).alloc _
  have F0 : Hid _ := f0
  clear f0
  by_cases h1 : ak = 0
  · have HR : Hid (r = 1) := HL.out.trans (if_pos (Or.inl h1))
    clear HL
    subst h1
    go_enter Try.func39, Try.ntmps39
    go_wp2_with fail
    go_ret
    exact ⟨ret_int HR.out.symm, F0.out⟩
  have q1 : (ak == 0) = false := by simpa using h1
  by_cases h2 : bk = 0
  · have HR : Hid (r = 1) := HL.out.trans (if_pos (Or.inr h2))
    clear HL
    subst h2
    go_enter Try.func39, Try.ntmps39
    go_wp2_with fail
    go_ret
    exact ⟨ret_int HR.out.symm, F0.out⟩
  have q2 : (bk == 0) = false := by simpa using h2
  have HL2 : Hid (r = if o = 0 then 2 else 0) := HL.out.trans (if_neg (by omega))
  clear HL h1 h2
  by_cases ht : o = 0
  · have HR : Hid (r = 2) := HL2.out.trans (if_pos ht)
    have hcl : ∀ W, Calls Try.prog 41 #[.int .i64 o] W fun e w' => e = .returned (.bool true) ∧ w' = W := fun W => by
      have h := sameClo_any o W
      rw [show (o == 0) = true by simpa using ht] at h
      exact h
    clear HL2 ht
    go_enter Try.func39, Try.ntmps39
    go_wp2_with (go_at_call 43; refine (hc _).mono ?_)
    rintro _ w1 ⟨rfl, hf1⟩
    have hf : Fr w w1 := (((Fr.refl w).alloc _).alloc _).trans hf1
    have HF : Hid _ := hf
    clear hf1 hf
    go_wp2_with (go_at_call 41; refine (hcl _).mono ?_)
    rintro _ w2 ⟨rfl, rfl⟩
    go_wp2_with fail
    go_ret
    exact ⟨ret_int HR.out.symm, HF.out⟩
  · have HR : Hid (r = 0) := HL2.out.trans (if_neg ht)
    have hcl : ∀ W, Calls Try.prog 41 #[.int .i64 o] W fun e w' => e = .returned (.bool false) ∧ w' = W := fun W => by
      have h := sameClo_any o W
      rw [show (o == 0) = false by simpa using ht] at h
      exact h
    clear HL2 ht
    go_enter Try.func39, Try.ntmps39
    go_wp2_with (go_at_call 43; refine (hc _).mono ?_)
    rintro _ w1 ⟨rfl, hf1⟩
    have hf : Fr w w1 := (((Fr.refl w).alloc _).alloc _).trans hf1
    have HF : Hid _ := hf
    clear hf1 hf
    go_wp2_with (go_at_call 41; refine (hcl _).mono ?_)
    rintro _ w2 ⟨rfl, rfl⟩
    go_wp2_with fail
    go_ret
    exact ⟨ret_int HR.out.symm, HF.out⟩

set_option maxRecDepth 100000 in
set_option maxHeartbeats 1000000 in
theorem same_any (a b : VM.Vl) (w : World) :
    Calls Try.prog 35 #[a.val, b.val] w fun e w' => e = .returned (.int .i64 (LG.sm a b)) ∧ Fr w w' := by
  have ht := fun W => told_same a b W
  generalize LG.sm a b = r at *
  obtain ⟨ak, an, sa⟩ := a
  obtain ⟨bk, bn, sb⟩ := b
  unfold VM.Vl.val at *
  simp only at *
  have f0 : Fr w ((w.alloc (.cells #[.int .i64 ak, .int .i64 an, .string sa] 32)).alloc (.cells #[.int .i64 bk, .int .i64 bn, .string sb] 32)) := ((Fr.refl w).alloc _).alloc _
  have F0 : Hid _ := f0
  clear f0
  go_enter Try.func35, Try.ntmps35
  go_wp2_with (go_at_call 39; refine (ht _).mono ?_)
  rintro _ w1 ⟨rfl, hf1⟩
  go_wp2_with fail
  go_ret
  exact ⟨rfl, (((Fr.refl w).alloc _).alloc _).trans hf1⟩
end Go.Proofs.Ytppbmkkkjjkiiaa
