/-
  What number, slices.ContainsFunc with isText and slices.Contains of a Null answer.
-/
import Derived.Test.YtbcfdhimngoplaaGreatDoorEvA
import Derived.Test.YtbcfdhimngoplaaGreatDoorGpC
namespace Go.Proofs.YtbcfdhimngoplaaGreatDoor
open Go.ChangeShapes Go.WideShapes Go.ChangeAt Go.RowKit
set_option linter.unusedVariables false
set_option linter.unusedSimpArgs false
set_option maxRecDepth 100000
set_option maxHeartbeats 2000000
namespace EV
def ov (x : Int) : Except Nat Int := if -9223372036854775808 ≤ x ∧ x ≤ 9223372036854775807 then .ok x else .error 8
def num (op a b : Int) : Except Nat Int := if op = 3 then ov (-a) else if op = 5 then ov (a + b) else if op = 6 then ov (a - b) else if op = 7 then ov (a * b) else if op = 8 then (if b = 0 then .error 9 else ov (Int.tdiv a b)) else if b = 0 then .error 9 else .ok (Int.tmod a b)
end EV
theorem two_ov (x : Int) : two x = exT (EV.ov x) := by
 unfold two EV.ov WH.val WH.err
 by_cases h : -9223372036854775808 ≤ x ∧ x ≤ 9223372036854775807
 · rw [if_pos h, if_pos h, if_pos h]; rfl
 · rw [if_neg h, if_neg h, if_neg h]; rfl
theorem div_ov (a b : Int) : divTwo a b = exT (if b = 0 then .error 9 else EV.ov (Int.tdiv a b)) := by
 unfold divTwo
 by_cases h : b = 0
 · rw [if_pos h, if_pos h]; rfl
 · rw [if_neg h, if_neg h, two_ov]
theorem mod_ov (a b : Int) : modTwo a b = exT (if b = 0 then .error 9 else .ok (Int.tmod a b)) := by
 unfold modTwo
 by_cases h : b = 0
 · rw [if_pos h, if_pos h]; rfl
 · rw [if_neg h, if_neg h]; rfl
theorem num_one (op : Int) (F : Int) (h : op = 3) (a b : Int) (w : World) (ha : WH.Ok a) : Calls Tryz.prog 108 #[.int .i64 3, .int .i64 a, .int .i64 b] w fun e w' => e = .returned (exT (EV.ov (-a))) ∧ w' = w := by
 have c := fun W => neg_any a W ha
 rw [two_ov] at c
 cases hx : EV.ov (-a) with
 | ok x =>
  rw [hx] at c
  simp only [exT] at c
  go_enter Tryz.func108, Tryz.ntmps108
  go_wp2_with fail
  refine (c _).mono ?_
  rintro _ w1 ⟨rfl, rfl⟩
  go_wp2_with fail
  go_ret2
  exact ⟨rfl, rfl⟩
 | error x =>
  rw [hx] at c
  simp only [exT] at c
  go_enter Tryz.func108, Tryz.ntmps108
  go_wp2_with fail
  refine (c _).mono ?_
  rintro _ w1 ⟨rfl, rfl⟩
  go_wp2_with fail
  go_ret2
  exact ⟨rfl, rfl⟩
theorem num_add (op a b : Int) (w : World) (ha : WH.Ok a) (hb : WH.Ok b) : Calls Tryz.prog 108 #[.int .i64 5, .int .i64 a, .int .i64 b] w fun e w' => e = .returned (exT (EV.ov (a + b))) ∧ w' = w := by
 have c := fun W => add_any a b W ha hb
 rw [two_ov] at c
 generalize (EV.ov (a + b)) = V at *
 cases V with
 | ok x =>
  simp only [exT] at c
  go_enter Tryz.func108, Tryz.ntmps108
  go_wp2_with fail
  refine (c _).mono ?_
  rintro _ w1 ⟨rfl, rfl⟩
  go_wp2_with fail
  go_ret2
  exact ⟨rfl, rfl⟩
 | error x =>
  simp only [exT] at c
  go_enter Tryz.func108, Tryz.ntmps108
  go_wp2_with fail
  refine (c _).mono ?_
  rintro _ w1 ⟨rfl, rfl⟩
  go_wp2_with fail
  go_ret2
  exact ⟨rfl, rfl⟩
theorem num_sub (op a b : Int) (w : World) (ha : WH.Ok a) (hb : WH.Ok b) : Calls Tryz.prog 108 #[.int .i64 6, .int .i64 a, .int .i64 b] w fun e w' => e = .returned (exT (EV.ov (a - b))) ∧ w' = w := by
 have c := fun W => sub_any a b W ha hb
 rw [two_ov] at c
 generalize (EV.ov (a - b)) = V at *
 cases V with
 | ok x =>
  simp only [exT] at c
  go_enter Tryz.func108, Tryz.ntmps108
  go_wp2_with fail
  refine (c _).mono ?_
  rintro _ w1 ⟨rfl, rfl⟩
  go_wp2_with fail
  go_ret2
  exact ⟨rfl, rfl⟩
 | error x =>
  simp only [exT] at c
  go_enter Tryz.func108, Tryz.ntmps108
  go_wp2_with fail
  refine (c _).mono ?_
  rintro _ w1 ⟨rfl, rfl⟩
  go_wp2_with fail
  go_ret2
  exact ⟨rfl, rfl⟩
theorem num_mul (op a b : Int) (w : World) (ha : WH.Ok a) (hb : WH.Ok b) : Calls Tryz.prog 108 #[.int .i64 7, .int .i64 a, .int .i64 b] w fun e w' => e = .returned (exT (EV.ov (a * b))) ∧ w' = w := by
 have c := fun W => mul_any a b W ha hb
 rw [two_ov] at c
 generalize (EV.ov (a * b)) = V at *
 cases V with
 | ok x =>
  simp only [exT] at c
  go_enter Tryz.func108, Tryz.ntmps108
  go_wp2_with fail
  refine (c _).mono ?_
  rintro _ w1 ⟨rfl, rfl⟩
  go_wp2_with fail
  go_ret2
  exact ⟨rfl, rfl⟩
 | error x =>
  simp only [exT] at c
  go_enter Tryz.func108, Tryz.ntmps108
  go_wp2_with fail
  refine (c _).mono ?_
  rintro _ w1 ⟨rfl, rfl⟩
  go_wp2_with fail
  go_ret2
  exact ⟨rfl, rfl⟩
theorem num_div (op a b : Int) (w : World) (ha : WH.Ok a) (hb : WH.Ok b) : Calls Tryz.prog 108 #[.int .i64 8, .int .i64 a, .int .i64 b] w fun e w' => e = .returned (exT (if b = 0 then .error 9 else EV.ov (Int.tdiv a b))) ∧ w' = w := by
 have c := fun W => div_any a b W ha hb
 rw [div_ov] at c
 generalize (if b = 0 then Except.error 9 else EV.ov (Int.tdiv a b) : Except Nat Int) = V at *
 cases V with
 | ok x =>
  simp only [exT] at c
  go_enter Tryz.func108, Tryz.ntmps108
  go_wp2_with fail
  refine (c _).mono ?_
  rintro _ w1 ⟨rfl, rfl⟩
  go_wp2_with fail
  go_ret2
  exact ⟨rfl, rfl⟩
 | error x =>
  simp only [exT] at c
  go_enter Tryz.func108, Tryz.ntmps108
  go_wp2_with fail
  refine (c _).mono ?_
  rintro _ w1 ⟨rfl, rfl⟩
  go_wp2_with fail
  go_ret2
  exact ⟨rfl, rfl⟩
theorem num_mod (op a b : Int) (w : World) (ha : WH.Ok a) (hb : WH.Ok b) (h3 : op ≠ 3) (h5 : op ≠ 5) (h6 : op ≠ 6) (h7 : op ≠ 7) (h8 : op ≠ 8) : Calls Tryz.prog 108 #[.int .i64 op, .int .i64 a, .int .i64 b] w fun e w' => e = .returned (exT (if b = 0 then .error 9 else .ok (Int.tmod a b))) ∧ w' = w := by
 have c := fun W => mod_any a b W ha hb
 have e3 : (op == 3) = false := by simpa using h3
 have e5 : (op == 5) = false := by simpa using h5
 have e6 : (op == 6) = false := by simpa using h6
 have e7 : (op == 7) = false := by simpa using h7
 have e8 : (op == 8) = false := by simpa using h8
 rw [mod_ov] at c
 generalize (if b = 0 then Except.error 9 else Except.ok (Int.tmod a b) : Except Nat Int) = V at *
 cases V with
 | ok x =>
  simp only [exT] at c
  go_enter Tryz.func108, Tryz.ntmps108
  go_wp2_with fail
  refine (c _).mono ?_
  rintro _ w1 ⟨rfl, rfl⟩
  go_wp2_with fail
  go_ret2
  exact ⟨rfl, rfl⟩
 | error x =>
  simp only [exT] at c
  go_enter Tryz.func108, Tryz.ntmps108
  go_wp2_with fail
  refine (c _).mono ?_
  rintro _ w1 ⟨rfl, rfl⟩
  go_wp2_with fail
  go_ret2
  exact ⟨rfl, rfl⟩
theorem number_any (op a b : Int) (w : World) (ha : WH.Ok a) (hb : WH.Ok b) : Calls Tryz.prog 108 #[.int .i64 op, .int .i64 a, .int .i64 b] w fun e w' => e = .returned (exT (EV.num op a b)) ∧ w' = w := by
 unfold EV.num
 by_cases h3 : op = 3
 · rw [if_pos h3]; subst h3; exact num_one 3 0 rfl a b w ha
 rw [if_neg h3]
 by_cases h5 : op = 5
 · rw [if_pos h5]; subst h5; exact num_add 5 a b w ha hb
 rw [if_neg h5]
 by_cases h6 : op = 6
 · rw [if_pos h6]; subst h6; exact num_sub 6 a b w ha hb
 rw [if_neg h6]
 by_cases h7 : op = 7
 · rw [if_pos h7]; subst h7; exact num_mul 7 a b w ha hb
 rw [if_neg h7]
 by_cases h8 : op = 8
 · rw [if_pos h8]; subst h8; exact num_div 8 a b w ha hb
 rw [if_neg h8]
 exact num_mod op a b w ha hb h3 h5 h6 h7 h8
def cdV : Cd VM.Vl := ⟨3, fun x => [.int .i64 x.k, .int .i64 x.n, .string x.s], by decide, fun _ => rfl, fun x u h => by simp at h; rcases h with rfl | rfl | rfl <;> rfl⟩
theorem At.v3 {w : World} {b o : Nat} {l : List VM.Vl} (h : At cdV w b o l) (i : Nat) (hi : i < l.length) :
  w.cell? ⟨b, o + i * 3, none⟩ = some (.int .i64 l[i].k) ∧ w.cell? ⟨b, o + i * 3 + 1, none⟩ = some (.int .i64 l[i].n) ∧ w.cell? ⟨b, o + i * 3 + 2, none⟩ = some (.string l[i].s) :=
 ⟨h (i * 3) _ (by have := flat_get cdV l i 0 hi (by decide); simpa [cdV] using this),
 h (i * 3 + 1) _ (by have := flat_get cdV l i 1 hi (by decide); simpa [cdV] using this),
 h (i * 3 + 2) _ (by have := flat_get cdV l i 2 hi (by decide); simpa [cdV] using this)⟩
theorem idxF_any (v : Value) (l : List VM.Vl) (w : World) (h : IsL cdV w v l) (hl : l.length ≤ 1000000) :
  Calls Tryz.prog 122 #[v, .func (.func 85) #[] #[]] w fun e w' => (∃ r : Int, e = .returned (.int .i64 r) ∧ decide (0 ≤ r) = l.any EV.isT) ∧ Fr w w' := by
 obtain ⟨a, cap, rfl, hcap, hcs⟩ := h
 have HC := hideP hcs
 clear hcs
 go_enter Tryz.func122, Tryz.ntmps122
 go_wp2_with fail
 go_loopw [5, 8] (fun _ iv wr => ∃ i : Nat, iv = .int .i64 i ∧ i ≤ l.length ∧ (l.take i).any EV.isT = false ∧ Fr w wr) (fun _ iv _ => l.length - (intOf iv).toNat)
 case atStart => exact ⟨0, rfl, Nat.zero_le _, rfl, Fr.refl _⟩
 case round =>
  obtain ⟨i, rfl, hi, hno, hfr⟩ := hrel
  have HNo := hideP hno
  have HF := hideP hfr
  clear hno hfr
  by_cases hlt : i < l.length
  ·
   have hlt' : (i : Int) < (l.length : Int) := by omega
   obtain ⟨b, o, rfl, hb, hc⟩ : ∃ b o, a = some ⟨b, o, none⟩ ∧ b < w.heap.size ∧ At cdV w b o l := by
    rcases HC.out with h | h
    · rw [h] at hlt; simp at hlt
    · exact h
   obtain ⟨c0, c1, c2⟩ := (hc.fr hb HF.out).v3 i hlt
   have ci := fun W => isText_any l[i] W
   have htk : (l.take (i + 1)).any EV.isT = EV.isT l[i] := by rw [List.take_succ_eq_append_getElem hlt, List.any_append, HNo.out]; simp
   have hyes : EV.isT l[i] = true → l.any EV.isT = true := fun h => List.any_eq_true.2 ⟨l[i], List.getElem_mem hlt, h⟩
   generalize EV.isT l[i] = it at *
   simp only [vlV] at ci
   generalize l[i].k = y0 at *
   generalize l[i].n = y1 at *
   generalize l[i].s = y2 at *
   have HTk := hideP htk
   have HY := hideP hyes
   clear hc htk hyes
   cases it with
   | true =>
    have HZ := hideP (HY.out rfl)
    go_wp2_with fail
    refine (ci _).mono ?_
    rintro _ w1 ⟨rfl, f1⟩
    go_wp2_with fail
    go_ret
    exact ⟨⟨i, rfl, by rw [HZ.out]; simp⟩, HF.out.trans f1⟩
   | false =>
    go_wp2_with fail
    refine (ci _).mono ?_
    rintro _ w1 ⟨rfl, f1⟩
    go_wp2_with fail
    go_roundw
    case rel => exact ⟨i + 1, by go_num, by omega, HTk.out, HF.out.trans f1⟩
    case measure => simp [intOf]; omega
  ·
   obtain rfl : i = l.length := by omega
   have hlt' : ((l.length : Int) < (l.length : Int)) = False := by simp
   have HZ : Hid (l.any EV.isT = false) := by
    unfold Hid
    have := HNo.out
    rwa [List.take_length] at this
   go_wp2_with fail
   go_ret
   exact ⟨⟨-1, rfl, by rw [HZ.out]; decide⟩, HF.out⟩
theorem contF_any (v : Value) (l : List VM.Vl) (w : World) (h : IsL cdV w v l) (hl : l.length ≤ 1000000) :
  Calls Tryz.prog 106 #[v, .func (.func 85) #[] #[]] w fun e w' => e = .returned (.bool (l.any EV.isT)) ∧ Fr w w' := by
 have c := idxF_any v l w h hl
 obtain ⟨a, cap, rfl, _⟩ := h
 go_enter Tryz.func106, Tryz.ntmps106
 go_wp2_with fail
 refine c.mono ?_
 rintro _ w1 ⟨⟨r, rfl, hr⟩, f1⟩
 have HR := hideP hr
 clear hr
 go_wp2_with fail
 go_ret
 exact ⟨by rw [← HR.out]; rfl, f1⟩
theorem idx_any (v : Value) (l : List VM.Vl) (w : World) (h : IsL cdV w v l) (hl : l.length ≤ 1000000) :
  Calls Tryz.prog 123 #[v, .agg #[.int .i64 0, .int .i64 0, .string ⟨#[]⟩]] w fun e w' => (∃ r : Int, e = .returned (.int .i64 r) ∧ decide (0 ≤ r) = l.any EX.isNul) ∧ Fr w w' := by
 obtain ⟨a, cap, rfl, hcap, hcs⟩ := h
 have HC := hideP hcs
 have HB := hideP (Blk.new w #[.int .i64 0, .int .i64 0, .string ⟨#[]⟩] 56)
 have F0 := hideP ((Fr.refl w).alloc (.cells #[.int .i64 0, .int .i64 0, .string ⟨#[]⟩] 56))
 clear hcs
 go_enter Tryz.func123, Tryz.ntmps123
 go_wp2_with fail
 generalize w.alloc (.cells #[.int .i64 0, .int .i64 0, .string ⟨#[]⟩] 56) = W0 at *
 go_loopw [5, 8] (fun _ iv wr => ∃ i : Nat, iv = .int .i64 i ∧ i ≤ l.length ∧ (l.take i).any EX.isNul = false ∧ Fr W0 wr) (fun _ iv _ => l.length - (intOf iv).toNat)
 case atStart => exact ⟨0, rfl, Nat.zero_le _, rfl, Fr.refl _⟩
 case round =>
  obtain ⟨i, rfl, hi, hno, hfr⟩ := hrel
  have HNo := hideP hno
  have HF := hideP hfr
  clear hno hfr
  by_cases hlt : i < l.length
  ·
   have hlt' : (i : Int) < (l.length : Int) := by omega
   obtain ⟨b, o, rfl, hb, hc⟩ : ∃ b o, a = some ⟨b, o, none⟩ ∧ b < w.heap.size ∧ At cdV w b o l := by
    rcases HC.out with h | h
    · rw [h] at hlt; simp at hlt
    · exact h
   obtain ⟨c0, c1, c2⟩ := (hc.fr hb (F0.out.trans HF.out)).v3 i hlt
   have q0 := (HB.out.fr HF.out).cell 0 rfl
   have q1 := (HB.out.fr HF.out).cell 1 rfl
   have q2 := (HB.out.fr HF.out).cell 2 rfl
   have htk : (l.take (i + 1)).any EX.isNul = EX.isNul l[i] := by rw [List.take_succ_eq_append_getElem hlt, List.any_append, HNo.out]; simp
   have hyes : EX.isNul l[i] = true → l.any EX.isNul = true := fun h => List.any_eq_true.2 ⟨l[i], List.getElem_mem hlt, h⟩
   have hnul := @nul_of l[i]
   have hnot := @nul_not l[i]
   generalize l[i] = y at *
   obtain ⟨y0, y1, y2⟩ := y
   simp only at c0 c1 c2 hnul hnot
   generalize EX.isNul ⟨y0, y1, y2⟩ = it at *
   have HTk := hideP htk
   have HY := hideP hyes
   have hz := Fr.drew (Fr.refl wr)
   clear hc htk hyes
   cases it with
   | true =>
    have HZ := hideP (HY.out rfl)
    have hv := hnul rfl
    simp only [EX.nul, VM.Vl.mk.injEq] at hv
    obtain ⟨rfl, rfl, rfl⟩ := hv
    clear hnul hnot
    go_wp2_with fail
    go_region
    all_goals (
     go_wp2_with fail
     go_ret
     exact ⟨⟨i, rfl, by rw [HZ.out]; simp⟩, F0.out.trans (HF.out.trans hz)⟩)
   | false =>
    have hv := hnot rfl
    clear hnul hnot
    rcases hv with h1 | ⟨rfl, h2⟩ | ⟨rfl, rfl, h3⟩
    ·
     have e1 : (0 == y0) = false := by rw [beq_eq_false_iff_ne]; omega
     have e2 : (y0 == 0) = false := by simpa using h1
     have e3 : ¬ ((0 : Int) = y0) := by omega
     go_wp2_with fail
     go_region
     all_goals (
      go_wp2_with fail
      go_roundw
      case rel => exact ⟨i + 1, by go_num, by omega, HTk.out, HF.out.trans hz⟩
      case measure => simp [intOf]; omega)
    ·
     have e1 : (0 == y1) = false := by rw [beq_eq_false_iff_ne]; omega
     have e2 : (y1 == 0) = false := by simpa using h2
     have e3 : ¬ ((0 : Int) = y1) := by omega
     go_wp2_with fail
     go_region
     all_goals (
      go_wp2_with fail
      go_roundw
      case rel => exact ⟨i + 1, by go_num, by omega, HTk.out, HF.out.trans hz⟩
      case measure => simp [intOf]; omega)
    ·
     obtain ⟨d1, d2, d3⟩ := size_some h3
     have d4 : ([] == y2.toList) = false := by rw [beq_eq_false_iff_ne]; exact fun h => d3 h.symm
     have d5 : ¬ ([] = y2.toList) := fun h => d3 h.symm
     go_wp2_with fail
     go_region
     all_goals (
      go_wp2_with fail
      go_roundw
      case rel => exact ⟨i + 1, by go_num, by omega, HTk.out, HF.out.trans hz⟩
      case measure => simp [intOf]; omega)
  ·
   obtain rfl : i = l.length := by omega
   have hlt' : ((l.length : Int) < (l.length : Int)) = False := by simp
   have HZ : Hid (l.any EX.isNul = false) := by
    unfold Hid
    have := HNo.out
    rwa [List.take_length] at this
   go_wp2_with fail
   go_ret
   exact ⟨⟨-1, rfl, by rw [HZ.out]; decide⟩, F0.out.trans HF.out⟩
theorem cont_any (v : Value) (l : List VM.Vl) (w : World) (h : IsL cdV w v l) (hl : l.length ≤ 1000000) :
  Calls Tryz.prog 107 #[v, .agg #[.int .i64 0, .int .i64 0, .string ⟨#[]⟩]] w fun e w' => e = .returned (.bool (l.any EX.isNul)) ∧ Fr w w' := by
 have c := fun W (f : Fr w W) => idx_any v l W (h.fr f) hl
 have F0 := hideP ((Fr.refl w).alloc (.cells #[.int .i64 0, .int .i64 0, .string ⟨#[]⟩] 56))
 obtain ⟨a, cap, rfl, _⟩ := h
 go_enter Tryz.func107, Tryz.ntmps107
 go_wp2_with fail
 refine (c _ F0.out).mono ?_
 rintro _ w1 ⟨⟨r, rfl, hr⟩, f1⟩
 have HR := hideP hr
 clear hr
 go_wp2_with fail
 go_ret
 exact ⟨by rw [← HR.out]; rfl, F0.out.trans f1⟩
end Go.Proofs.YtbcfdhimngoplaaGreatDoor
