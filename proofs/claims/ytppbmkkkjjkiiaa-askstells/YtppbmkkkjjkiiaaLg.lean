/-
  What And, Or, Not, All and Any of package logic answer, and the document's own answers beside them.
-/
import Derived.Test.YtppbmkkkjjkiiaaLgMath
import Derived.Test.YtppbmkkkjjkiiaaIntL
namespace Go.Proofs.Ytppbmkkkjjkiiaa
open Go.ChangeShapes Go.WideShapes Go.ChangeAt Go.RowKit
set_option linter.unusedVariables false
set_option maxRecDepth 100000

set_option maxHeartbeats 400000 in
theorem known_any (a : Int) (w : World) : Calls Try.prog 32 #[.int .i64 a] w fun e w' => e = .returned (.int .i64 (LG.kn a)) ∧ w' = w := by
  by_cases h0 : a = 0
  · subst h0
    go_enter Try.func32, Try.ntmps32
    go_wp2_with fail
    go_ret
    exact ⟨rfl, rfl⟩
  by_cases h2 : a = 2
  · subst h2
    go_enter Try.func32, Try.ntmps32
    go_wp2_with fail
    go_ret
    exact ⟨rfl, rfl⟩
  · have HK : Hid (LG.kn a = 1) := by unfold Hid LG.kn; rw [if_neg h0, if_neg h2]
    have q0 : (a == 0) = false := by simpa using h0
    have q2 : (a == 2) = false := by simpa using h2
    go_enter Try.func32, Try.ntmps32
    go_wp2_with fail
    go_ret
    exact ⟨ret_int HK.out.symm, rfl⟩

set_option maxHeartbeats 400000 in
theorem and_any (a b : Int) (w : World) : Calls Try.prog 11 #[.int .i64 a, .int .i64 b] w fun e w' => e = .returned (.int .i64 (LG.and a b)) ∧ w' = w := by
  have c1 := fun W => known_any a W
  have c2 := fun W => known_any b W
  have HA : Hid (LG.and a b = min (LG.kn a) (LG.kn b)) := rfl
  generalize LG.kn a = x at *
  generalize LG.kn b = y at *
  go_enter Try.func11, Try.ntmps11
  go_wp2_with (go_at_call 32; refine (c1 _).mono ?_)
  rintro _ w1 ⟨rfl, rfl⟩
  go_wp2_with (go_at_call 32; refine (c2 _).mono ?_)
  rintro _ w1 ⟨rfl, rfl⟩
  go_wp2_with fail
  go_ret
  exact ⟨ret_int HA.out.symm, rfl⟩

set_option maxHeartbeats 400000 in
theorem or_any (a b : Int) (w : World) : Calls Try.prog 13 #[.int .i64 a, .int .i64 b] w fun e w' => e = .returned (.int .i64 (LG.or a b)) ∧ w' = w := by
  have c1 := fun W => known_any a W
  have c2 := fun W => known_any b W
  have HA : Hid (LG.or a b = max (LG.kn a) (LG.kn b)) := rfl
  generalize LG.kn a = x at *
  generalize LG.kn b = y at *
  go_enter Try.func13, Try.ntmps13
  go_wp2_with (go_at_call 32; refine (c1 _).mono ?_)
  rintro _ w1 ⟨rfl, rfl⟩
  go_wp2_with (go_at_call 32; refine (c2 _).mono ?_)
  rintro _ w1 ⟨rfl, rfl⟩
  go_wp2_with fail
  go_ret
  exact ⟨ret_int HA.out.symm, rfl⟩

set_option maxHeartbeats 400000 in
theorem not_any (a : Int) (w : World) : Calls Try.prog 15 #[.int .i64 a] w fun e w' => e = .returned (.int .i64 (LG.not a)) ∧ w' = w := by
  by_cases h0 : a = 0
  · subst h0
    go_enter Try.func15, Try.ntmps15
    go_wp2_with fail
    go_ret
    exact ⟨rfl, rfl⟩
  by_cases h2 : a = 2
  · subst h2
    go_enter Try.func15, Try.ntmps15
    go_wp2_with fail
    go_ret
    exact ⟨rfl, rfl⟩
  · have HK : Hid (LG.not a = 1) := by unfold Hid LG.not; rw [if_neg h0, if_neg h2]
    have q0 : (a == 0) = false := by simpa using h0
    have q2 : (a == 2) = false := by simpa using h2
    go_enter Try.func15, Try.ntmps15
    go_wp2_with fail
    go_ret
    exact ⟨ret_int HK.out.symm, rfl⟩

set_option maxHeartbeats 400000 in
theorem truthNot_any (a : Int) (w : World) : Calls Try.prog 16 #[.int .i64 a] w fun e w' => e = .returned (.int .i64 (LG.not a)) ∧ w' = w := by
  by_cases h0 : a = 0
  · subst h0
    go_enter Try.func16, Try.ntmps16
    go_wp2_with fail
    go_ret
    exact ⟨rfl, rfl⟩
  by_cases h2 : a = 2
  · subst h2
    go_enter Try.func16, Try.ntmps16
    go_wp2_with fail
    go_ret
    exact ⟨rfl, rfl⟩
  · have HK : Hid (LG.not a = 1) := by unfold Hid LG.not; rw [if_neg h0, if_neg h2]
    have q0 : (a == 0) = false := by simpa using h0
    have q2 : (a == 2) = false := by simpa using h2
    go_enter Try.func16, Try.ntmps16
    go_wp2_with fail
    go_ret
    exact ⟨ret_int HK.out.symm, rfl⟩

set_option maxHeartbeats 400000 in
theorem truthAnd_any (a b : Int) (w : World) : Calls Try.prog 12 #[.int .i64 a, .int .i64 b] w fun e w' => e = .returned (.int .i64 (LG.and a b)) ∧ w' = w := by
  have ha : a = 0 ∨ a = 2 ∨ ((a == 0) = false ∧ (a == 2) = false ∧ LG.kn a = 1) := by
    by_cases h0 : a = 0
    · exact Or.inl h0
    by_cases h2 : a = 2
    · exact Or.inr (Or.inl h2)
    · exact Or.inr (Or.inr ⟨by simpa using h0, by simpa using h2, by unfold LG.kn; rw [if_neg h0, if_neg h2]⟩)
  have hb : b = 0 ∨ b = 2 ∨ ((b == 0) = false ∧ (b == 2) = false ∧ LG.kn b = 1) := by
    by_cases h0 : b = 0
    · exact Or.inl h0
    by_cases h2 : b = 2
    · exact Or.inr (Or.inl h2)
    · exact Or.inr (Or.inr ⟨by simpa using h0, by simpa using h2, by unfold LG.kn; rw [if_neg h0, if_neg h2]⟩)
  rcases ha with rfl | rfl | ⟨p1, p2, p3⟩ <;> rcases hb with rfl | rfl | ⟨q1, q2, q3⟩
  all_goals (
    go_enter Try.func12, Try.ntmps12
    go_wp2_with fail
    go_ret
    exact ⟨ret_int (by first | rfl | (simp only [LG.and, p3, q3]; rfl) | (simp only [LG.and, p3]; rfl) | (simp only [LG.and, q3]; rfl)), rfl⟩)

set_option maxHeartbeats 400000 in
theorem truthOr_any (a b : Int) (w : World) : Calls Try.prog 14 #[.int .i64 a, .int .i64 b] w fun e w' => e = .returned (.int .i64 (LG.or a b)) ∧ w' = w := by
  have ha : a = 0 ∨ a = 2 ∨ ((a == 0) = false ∧ (a == 2) = false ∧ LG.kn a = 1) := by
    by_cases h0 : a = 0
    · exact Or.inl h0
    by_cases h2 : a = 2
    · exact Or.inr (Or.inl h2)
    · exact Or.inr (Or.inr ⟨by simpa using h0, by simpa using h2, by unfold LG.kn; rw [if_neg h0, if_neg h2]⟩)
  have hb : b = 0 ∨ b = 2 ∨ ((b == 0) = false ∧ (b == 2) = false ∧ LG.kn b = 1) := by
    by_cases h0 : b = 0
    · exact Or.inl h0
    by_cases h2 : b = 2
    · exact Or.inr (Or.inl h2)
    · exact Or.inr (Or.inr ⟨by simpa using h0, by simpa using h2, by unfold LG.kn; rw [if_neg h0, if_neg h2]⟩)
  rcases ha with rfl | rfl | ⟨p1, p2, p3⟩ <;> rcases hb with rfl | rfl | ⟨q1, q2, q3⟩
  all_goals (
    go_enter Try.func14, Try.ntmps14
    go_wp2_with fail
    go_ret
    exact ⟨ret_int (by first | rfl | (simp only [LG.or, p3, q3]; rfl) | (simp only [LG.or, p3]; rfl) | (simp only [LG.or, q3]; rfl)), rfl⟩)

set_option maxHeartbeats 1000000 in
theorem all_any (v : Value) (l : List Int) (w : World) (hr : IsInts w v l) (hbig : l.length ≤ 9223372036854775807) :
    Calls Try.prog 17 #[v] w fun e w' => e = .returned (.int .i64 (LG.all l)) ∧ w' = w := by
  obtain ⟨a, cap, rfl, _, hcs⟩ := hr
  have HC : Hid _ := hcs
  clear hcs
  go_enter Try.func17, Try.ntmps17
  go_wp2_with fail
  go_loop [3, 8] (fun sv iv => ∃ (k : Nat) (s : Int), k ≤ l.length ∧ iv = .int .i64 k ∧ sv = .int .i64 s ∧ s = LG.all (l.take k)) (fun _ iv => l.length - (intOf iv).toNat)
  case atStart => exact ⟨0, 2, Nat.zero_le _, rfl, rfl, rfl⟩
  case round =>
    obtain ⟨k, s, hk, rfl, rfl, hs⟩ := hrel
    by_cases hlt : k < l.length
    · obtain ⟨b, o, rfl, hb, hc⟩ : ∃ b o, a = some ⟨b, o, none⟩ ∧ b < w.heap.size ∧ IntsAt w b o l := by
        rcases HC.out with h | h
        · subst h; simp at hlt
        · exact h
      have c0 := hc k hlt
      have HS : Hid (LG.all (l.take (k + 1)) = LG.and s l[k]) := by
        unfold Hid
        rw [List.take_succ_eq_append_getElem hlt, LG.all_app, ← hs]
        show LG.and s (LG.and l[k] 2) = _
        rw [LG.and_two]
        show min (LG.kn s) (LG.kn (LG.kn l[k])) = _
        rw [LG.kn_kn]
        rfl
      have hA := fun W => and_any s l[k] W
      generalize l[k] = z at *
      generalize LG.and s z = y at *
      clear hc hs HC
      go_wp2_with (go_at_call 11; refine (hA _).mono ?_; rintro _ w1 ⟨rfl, rfl⟩)
      go_round
      case rel => exact ⟨k + 1, _, by omega, by go_num, rfl, HS.out.symm⟩
      case measure => simp [intOf]; omega
    · obtain rfl : k = l.length := by omega
      rw [List.take_length] at hs
      have HS : Hid _ := hs
      clear hs HC
      go_wp2_with fail
      go_ret
      exact ⟨ret_int HS.out, rfl⟩

set_option maxHeartbeats 1000000 in
theorem any_any (v : Value) (l : List Int) (w : World) (hr : IsInts w v l) (hbig : l.length ≤ 9223372036854775807) :
    Calls Try.prog 19 #[v] w fun e w' => e = .returned (.int .i64 (LG.any l)) ∧ w' = w := by
  obtain ⟨a, cap, rfl, _, hcs⟩ := hr
  have HC : Hid _ := hcs
  clear hcs
  go_enter Try.func19, Try.ntmps19
  go_wp2_with fail
  go_loop [3, 8] (fun sv iv => ∃ (k : Nat) (s : Int), k ≤ l.length ∧ iv = .int .i64 k ∧ sv = .int .i64 s ∧ s = LG.any (l.take k)) (fun _ iv => l.length - (intOf iv).toNat)
  case atStart => exact ⟨0, 0, Nat.zero_le _, rfl, rfl, rfl⟩
  case round =>
    obtain ⟨k, s, hk, rfl, rfl, hs⟩ := hrel
    by_cases hlt : k < l.length
    · obtain ⟨b, o, rfl, hb, hc⟩ : ∃ b o, a = some ⟨b, o, none⟩ ∧ b < w.heap.size ∧ IntsAt w b o l := by
        rcases HC.out with h | h
        · subst h; simp at hlt
        · exact h
      have c0 := hc k hlt
      have HS : Hid (LG.any (l.take (k + 1)) = LG.or s l[k]) := by
        unfold Hid
        rw [List.take_succ_eq_append_getElem hlt, LG.any_app, ← hs]
        show LG.or s (LG.or l[k] 0) = _
        rw [LG.or_nought]
        show max (LG.kn s) (LG.kn (LG.kn l[k])) = _
        rw [LG.kn_kn]
        rfl
      have hA := fun W => or_any s l[k] W
      generalize l[k] = z at *
      generalize LG.or s z = y at *
      clear hc hs HC
      go_wp2_with (go_at_call 13; refine (hA _).mono ?_; rintro _ w1 ⟨rfl, rfl⟩)
      go_round
      case rel => exact ⟨k + 1, _, by omega, by go_num, rfl, HS.out.symm⟩
      case measure => simp [intOf]; omega
    · obtain rfl : k = l.length := by omega
      rw [List.take_length] at hs
      have HS : Hid _ := hs
      clear hs HC
      go_wp2_with fail
      go_ret
      exact ⟨ret_int HS.out, rfl⟩

theorem truthAll_stop {s : Int} (x : Int) (hs : s = 1 ∨ s = 2) : LG.and s (LG.and 0 x) = 0 := by
  have h := LG.kn_in x
  show min (LG.kn s) (LG.kn (LG.and 0 x)) = _
  rw [LG.kn_and, LG.kn_of (a := s) (by omega), LG.kn_of (a := 0) (by omega)]
  omega
theorem truthAll_pass {s : Int} (x : Int) : LG.and s (LG.and 2 x) = LG.and s x := by
  have h := LG.kn_in x
  show min (LG.kn s) (LG.kn (LG.and 2 x)) = min (LG.kn s) (LG.kn x)
  rw [LG.kn_and, LG.kn_of (a := 2) (by omega)]
  omega
theorem truthAll_dim {s z : Int} (x : Int) (hs : s = 1 ∨ s = 2) (hz : LG.kn z = 1) : LG.and s (LG.and z x) = LG.and 1 x := by
  have h := LG.kn_in x
  show min (LG.kn s) (LG.kn (LG.and z x)) = min (LG.kn 1) (LG.kn x)
  rw [LG.kn_and, LG.kn_of (a := s) (by omega), hz, LG.kn_of (a := 1) (by omega)]
  omega
set_option maxHeartbeats 1000000 in
theorem truthAll_any (v : Value) (l : List Int) (w : World) (hr : IsInts w v l) (hbig : l.length ≤ 9223372036854775807) :
    Calls Try.prog 18 #[v] w fun e w' => e = .returned (.int .i64 (LG.all l)) ∧ w' = w := by
  obtain ⟨a, cap, rfl, _, hcs⟩ := hr
  have HC : Hid _ := hcs
  clear hcs
  go_enter Try.func18, Try.ntmps18
  go_wp2_with fail
  go_loop [3, 4] (fun sv iv => ∃ (k : Nat) (s : Int), k ≤ l.length ∧ iv = .int .i64 k ∧ sv = .int .i64 s ∧ (s = 1 ∨ s = 2) ∧ LG.all l = LG.and s (LG.all (l.drop k))) (fun _ iv => l.length - (intOf iv).toNat)
  case atStart => exact ⟨0, 2, Nat.zero_le _, rfl, rfl, Or.inr rfl, by rw [LG.two_and]; exact (LG.kn_of (LG.all_in l)).symm⟩
  case round =>
    obtain ⟨k, s, hk, rfl, rfl, hs1, hs⟩ := hrel
    have HS1 : Hid _ := hs1
    clear hs1
    by_cases hlt : k < l.length
    · obtain ⟨b, o, rfl, hb, hc⟩ : ∃ b o, a = some ⟨b, o, none⟩ ∧ b < w.heap.size ∧ IntsAt w b o l := by
        rcases HC.out with h | h
        · subst h; simp at hlt
        · exact h
      have c0 := hc k hlt
      rw [List.drop_eq_getElem_cons hlt] at hs
      generalize l[k] = z at *
      have HS : Hid (LG.all l = LG.and s (LG.and z (LG.all (l.drop (k + 1))))) := hs
      clear hc hs HC
      by_cases h0 : z = 0
      · subst h0
        have HE : Hid _ := HS.out.trans (truthAll_stop _ HS1.out)
        clear HS
        go_wp2_with fail
        go_ret
        exact ⟨ret_int HE.out.symm, rfl⟩
      by_cases h2 : z = 2
      · subst h2
        have HE : Hid _ := HS.out.trans (truthAll_pass _)
        clear HS
        go_wp2_with fail
        go_round
        case rel => exact ⟨k + 1, s, by omega, by go_num, rfl, HS1.out, HE.out⟩
        case measure => simp [intOf]; omega
      · have hkn : LG.kn z = 1 := by unfold LG.kn; rw [if_neg (by omega), if_neg (by omega)]
        have HE : Hid _ := HS.out.trans (truthAll_dim _ HS1.out hkn)
        have q0 : (z == 0) = false := by simpa using h0
        have q2 : (z != 2) = true := by simpa using h2
        clear HS hkn h0 h2
        go_wp2_with fail
        go_round
        case rel => exact ⟨k + 1, 1, by omega, by go_num, rfl, Or.inl rfl, HE.out⟩
        case measure => simp [intOf]; omega
    · obtain rfl : k = l.length := by omega
      rw [List.drop_length] at hs
      have HS : Hid (LG.all l = s) := by
        unfold Hid
        rw [hs]
        show LG.and s 2 = s
        rw [LG.and_two, LG.kn_of]
        have := HS1.out
        omega
      clear hs HC
      go_wp2_with fail
      go_ret
      exact ⟨ret_int HS.out.symm, rfl⟩

theorem truthAny_stop {s : Int} (x : Int) (hs : s = 1 ∨ s = 0) : LG.or s (LG.or 2 x) = 2 := by
  have h := LG.kn_in x
  show max (LG.kn s) (LG.kn (LG.or 2 x)) = _
  rw [LG.kn_or, LG.kn_of (a := s) (by omega), LG.kn_of (a := 2) (by omega)]
  omega
theorem truthAny_pass {s : Int} (x : Int) : LG.or s (LG.or 0 x) = LG.or s x := by
  have h := LG.kn_in x
  show max (LG.kn s) (LG.kn (LG.or 0 x)) = max (LG.kn s) (LG.kn x)
  rw [LG.kn_or, LG.kn_of (a := 0) (by omega)]
  omega
theorem truthAny_dim {s z : Int} (x : Int) (hs : s = 1 ∨ s = 0) (hz : LG.kn z = 1) : LG.or s (LG.or z x) = LG.or 1 x := by
  have h := LG.kn_in x
  show max (LG.kn s) (LG.kn (LG.or z x)) = max (LG.kn 1) (LG.kn x)
  rw [LG.kn_or, LG.kn_of (a := s) (by omega), hz, LG.kn_of (a := 1) (by omega)]
  omega
set_option maxHeartbeats 1000000 in
theorem truthAny_any (v : Value) (l : List Int) (w : World) (hr : IsInts w v l) (hbig : l.length ≤ 9223372036854775807) :
    Calls Try.prog 20 #[v] w fun e w' => e = .returned (.int .i64 (LG.any l)) ∧ w' = w := by
  obtain ⟨a, cap, rfl, _, hcs⟩ := hr
  have HC : Hid _ := hcs
  clear hcs
  go_enter Try.func20, Try.ntmps20
  go_wp2_with fail
  go_loop [3, 4] (fun sv iv => ∃ (k : Nat) (s : Int), k ≤ l.length ∧ iv = .int .i64 k ∧ sv = .int .i64 s ∧ (s = 1 ∨ s = 0) ∧ LG.any l = LG.or s (LG.any (l.drop k))) (fun _ iv => l.length - (intOf iv).toNat)
  case atStart => exact ⟨0, 0, Nat.zero_le _, rfl, rfl, Or.inr rfl, by rw [LG.nought_or]; exact (LG.kn_of (LG.any_in l)).symm⟩
  case round =>
    obtain ⟨k, s, hk, rfl, rfl, hs1, hs⟩ := hrel
    have HS1 : Hid _ := hs1
    clear hs1
    by_cases hlt : k < l.length
    · obtain ⟨b, o, rfl, hb, hc⟩ : ∃ b o, a = some ⟨b, o, none⟩ ∧ b < w.heap.size ∧ IntsAt w b o l := by
        rcases HC.out with h | h
        · subst h; simp at hlt
        · exact h
      have c0 := hc k hlt
      rw [List.drop_eq_getElem_cons hlt] at hs
      generalize l[k] = z at *
      have HS : Hid (LG.any l = LG.or s (LG.or z (LG.any (l.drop (k + 1))))) := hs
      clear hc hs HC
      by_cases h0 : z = 2
      · subst h0
        have HE : Hid _ := HS.out.trans (truthAny_stop _ HS1.out)
        clear HS
        go_wp2_with fail
        go_ret
        exact ⟨ret_int HE.out.symm, rfl⟩
      by_cases h2 : z = 0
      · subst h2
        have HE : Hid _ := HS.out.trans (truthAny_pass _)
        clear HS
        go_wp2_with fail
        go_round
        case rel => exact ⟨k + 1, s, by omega, by go_num, rfl, HS1.out, HE.out⟩
        case measure => simp [intOf]; omega
      · have hkn : LG.kn z = 1 := by unfold LG.kn; rw [if_neg (by omega), if_neg (by omega)]
        have HE : Hid _ := HS.out.trans (truthAny_dim _ HS1.out hkn)
        have q0 : (z == 2) = false := by simpa using h0
        have q2 : (z != 0) = true := by simpa using h2
        clear HS hkn h0 h2
        go_wp2_with fail
        go_round
        case rel => exact ⟨k + 1, 1, by omega, by go_num, rfl, Or.inl rfl, HE.out⟩
        case measure => simp [intOf]; omega
    · obtain rfl : k = l.length := by omega
      rw [List.drop_length] at hs
      have HS : Hid (LG.any l = s) := by
        unfold Hid
        rw [hs]
        show LG.or s 0 = s
        rw [LG.or_nought, LG.kn_of]
        have := HS1.out
        omega
      clear hs HC
      go_wp2_with fail
      go_ret
      exact ⟨ret_int HS.out.symm, rfl⟩

end Go.Proofs.Ytppbmkkkjjkiiaa
