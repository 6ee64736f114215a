/-
  shownWord, shownSign.
-/
import Derived.Test.YtoagobpkenfbkaaGreatDoorLxZ
namespace Go.Proofs.YtoagobpkenfbkaaGreatDoor
open Go.ChangeShapes Go.WideShapes Go.ChangeAt Go.RowKit Go.Shelf
set_option linter.unusedVariables false
set_option linter.unusedSimpArgs false

theorem all_run (p : UInt8 → Bool) : ∀ l : List UInt8, l.all p = true ↔ LX.run p l = l.length
  | [] => by simp [LX.run]
  | b :: r => by
    cases h : p b with
    | true =>
      rw [LX.run_step p b r h, List.all_cons, h, Bool.true_and, all_run p r, List.length_cons]
      omega
    | false =>
      rw [LX.run_zero p b r h, List.all_cons, h, List.length_cons]
      simp
def ws : UInt8 → Bool := fun c => LX.small c || VS.dig c
theorem chkW_first {b : UInt8} {r : List UInt8} (h : LX.small b = false) : LX.chkWord (b :: r) = 1 := by
  show (if LX.small b = true ∧ (b :: r).all ws = true then (if 12 < (b :: r).length then 2 else 0) else 1) = _
  rw [if_neg (fun h' => by rw [h] at h'; exact absurd h'.1 (by decide))]
theorem chkW_else {b : UInt8} {r : List UInt8} (h : LX.run ws (b :: r) ≠ (b :: r).length) : LX.chkWord (b :: r) = 1 := by
  show (if LX.small b = true ∧ (b :: r).all ws = true then (if 12 < (b :: r).length then 2 else 0) else 1) = _
  rw [if_neg (fun h' => h ((all_run ws _).1 h'.2))]
theorem chkW_many {b : UInt8} {r : List UInt8} (h0 : LX.small b = true) (h : LX.run ws (b :: r) = (b :: r).length) (hl : 12 < (b :: r).length) : LX.chkWord (b :: r) = 2 := by
  show (if LX.small b = true ∧ (b :: r).all ws = true then (if 12 < (b :: r).length then 2 else 0) else 1) = _
  rw [if_pos ⟨h0, (all_run ws _).2 h⟩, if_pos hl]
theorem chkW_ok {b : UInt8} {r : List UInt8} (h0 : LX.small b = true) (h : LX.run ws (b :: r) = (b :: r).length) (hl : ¬ 12 < (b :: r).length) : LX.chkWord (b :: r) = 0 := by
  show (if LX.small b = true ∧ (b :: r).all ws = true then (if 12 < (b :: r).length then 2 else 0) else 1) = _
  rw [if_pos ⟨h0, (all_run ws _).2 h⟩, if_neg hl]
/-- a text that is told with an error -/
def twE (s : ByteArray) (c : Nat) : Value := .tuple #[.string (if c = 0 then s else ⟨#[]⟩), .int .i64 c]

set_option maxRecDepth 100000 in
set_option maxHeartbeats 1000000 in
theorem shownWord_any (s : ByteArray) (w : World) (hs : s.size ≤ 9223372036854775807) :
    Calls Tryz.prog 48 #[.string s] w fun e w' => e = .returned (twE s (LX.chkWord s.data.toList)) ∧ Fr w w' := by
  have hlen := dlenx s
  have c1 := runSmall s w hs ws (fun b W => smallClo_any b W)
  have h1 := LX.run_le ws s.data.toList
  rw [hlen] at h1
  by_cases h0 : s.size = 0
  · have hl0 : s.data.toList = [] := List.length_eq_zero_iff.1 (by omega)
    obtain rfl : s = ⟨#[]⟩ := by rw [← dl_eq s, hl0]
    have HC : Hid (LX.chkWord (⟨#[]⟩ : ByteArray).data.toList = 1) := rfl
    generalize LX.chkWord _ = c at *
    generalize LX.run ws _ = r1 at *
    clear hl0 h0 hlen
    go_enter Tryz.func48, Tryz.ntmps48
    go_wp2_with fail
    refine c1.mono ?_
    rintro _ w1 ⟨rfl, rfl⟩
    go_wp2_with fail
    go_ret2
    exact ⟨by rw [HC.out]; rfl, Fr.refl _⟩
  · have hpos : 0 < s.size := by omega
    have h0Z : (0 : Int) < (s.size : Int) := by omega
    have hd : s.data.toList = s[0] :: s.data.toList.drop 1 := by
      have e : s.data.toList.drop 0 = s[0] :: s.data.toList.drop (0 + 1) := by
        rw [List.drop_eq_getElem_cons (by omega)]
        rfl
      exact e
    have hne : s.data.toList ≠ [] := fun h => by rw [h] at hlen; simp at hlen; omega
    have n1 : (s.toList == []) = false := beq_false_of_ne (by rw [Lib.toList_data]; exact hne)
    have n2 : ¬ s.toList = [] := by rw [Lib.toList_data]; exact hne
    have c2 := isSmall_any s[0] w
    have q1 := @chkW_first s[0] (s.data.toList.drop 1)
    have q2 := @chkW_else s[0] (s.data.toList.drop 1)
    have q3 := @chkW_many s[0] (s.data.toList.drop 1)
    have q4 := @chkW_ok s[0] (s.data.toList.drop 1)
    rw [← hd] at q1 q2 q3 q4
    rw [hlen] at q2 q3 q4
    generalize LX.chkWord s.data.toList = c at *
    generalize LX.run ws s.data.toList = r1 at *
    clear hd hne hlen h0
    cases hb : LX.small s[0] with
    | false =>
      rw [hb] at c2
      have HC : Hid _ := q1 hb
      clear q1 q2 q3 q4 hb
      go_enter Tryz.func48, Tryz.ntmps48
      go_wp2_with fail
      refine c1.mono ?_
      rintro _ w1 ⟨rfl, rfl⟩
      go_wp2_with fail
      refine c2.mono ?_
      rintro _ w2 ⟨rfl, rfl⟩
      go_wp2_with fail
      go_ret2
      exact ⟨by rw [HC.out]; rfl, Fr.refl _⟩
    | true =>
      rw [hb] at c2
      by_cases hr : r1 = s.size
      · subst hr
        by_cases h12 : 12 < s.size
        · have HC : Hid _ := q3 hb rfl h12
          have z1 : (12 : Int) < (s.size : Int) := by omega
          clear q1 q2 q3 q4 hb h12 h1
          go_enter Tryz.func48, Tryz.ntmps48
          go_wp2_with fail
          refine c1.mono ?_
          rintro _ w1 ⟨rfl, rfl⟩
          go_wp2_with fail
          refine c2.mono ?_
          rintro _ w2 ⟨rfl, rfl⟩
          go_wp2_with fail
          go_ret2
          exact ⟨by rw [HC.out]; rfl, Fr.refl _⟩
        · have HC : Hid _ := q4 hb rfl h12
          have z1 : (s.size : Int) ≤ 12 := by omega
          have z2 : (12 < (s.size : Int)) = False := by simp; omega
          clear q1 q2 q3 q4 hb h12 h1
          go_enter Tryz.func48, Tryz.ntmps48
          go_wp2_with fail
          refine c1.mono ?_
          rintro _ w1 ⟨rfl, rfl⟩
          go_wp2_with fail
          refine c2.mono ?_
          rintro _ w2 ⟨rfl, rfl⟩
          go_wp2_with fail
          go_ret2
          exact ⟨by rw [HC.out]; rfl, Fr.refl _⟩
      · have HC : Hid _ := q2 hr
        have z1 : (r1 : Int) < (s.size : Int) := by omega
        clear q1 q2 q3 q4 hb hr
        go_enter Tryz.func48, Tryz.ntmps48
        go_wp2_with fail
        refine c1.mono ?_
        rintro _ w1 ⟨rfl, rfl⟩
        go_wp2_with fail
        refine c2.mono ?_
        rintro _ w2 ⟨rfl, rfl⟩
        go_wp2_with fail
        go_ret2
        exact ⟨by rw [HC.out]; rfl, Fr.refl _⟩

theorem sign_is {l : List UInt8} {t : LX.Tk} {n : Nat} (h : LX.sign l = .ok (t, n)) : ∃ p ∈ LX.signs, LX.pre p l = true ∧ t = ⟨5, 0, p⟩ ∧ n = p.length := by
  unfold LX.sign at h
  split at h
  · rename_i p hp
    cases h
    exact ⟨p, List.mem_of_find?_eq_some hp, by simpa using List.find?_some hp, rfl, rfl⟩
  · cases h
theorem sign_own : ∀ p ∈ LX.signs, LX.sign p = .ok (⟨5, 0, p⟩, p.length) := by
  intro p hp
  simp only [LX.signs, List.mem_cons, List.not_mem_nil, or_false] at hp
  rcases hp with rfl | rfl | rfl | rfl | rfl | rfl | rfl | rfl | rfl | rfl | rfl | rfl | rfl | rfl | rfl <;> rfl
theorem pre_same {p l : List UInt8} (h : LX.pre p l = true) (hl : p.length = l.length) : p = l := by
  unfold LX.pre at h
  rw [List.isPrefixOf_iff_prefix] at h
  exact h.eq_of_length hl
def chkSign (s : List UInt8) : Nat := if s ∈ LX.signs then 0 else 1
theorem chkS_ok {l : List UInt8} {t : LX.Tk} {n : Nat} (h : LX.sign l = .ok (t, n)) (hn : n = l.length) : chkSign l = 0 ∧ t.s = l := by
  obtain ⟨p, hp, hpre, rfl, rfl⟩ := sign_is h
  have := pre_same hpre hn
  subst this
  exact ⟨if_pos hp, rfl⟩
theorem chkS_bad {l : List UInt8} (h : ∀ t n, LX.sign l = .ok (t, n) → n ≠ l.length) : chkSign l = 1 := by
  refine if_neg fun hm => ?_
  exact h _ _ (sign_own l hm) rfl
theorem sign_err1 {l : List UInt8} {e : Nat} (h : LX.sign l = .error e) : e = 1 := by
  unfold LX.sign at h
  split at h
  · cases h
  · cases h; rfl

set_option maxRecDepth 100000 in
set_option maxHeartbeats 1000000 in
theorem shownSign_any (s : ByteArray) (w : World) (hs : s.size ≤ 9223372036854775807) (hT : Tb w) :
    Calls Tryz.prog 50 #[.string s] w fun e w' => e = .returned (twE s (chkSign s.data.toList)) ∧ Fr w w' := by
  have hlen := dlenx s
  have c1 := signOf_any s w hT
  match hy : LX.sign s.data.toList with
  | .error e =>
    obtain rfl := sign_err1 hy
    have HC : Hid _ := chkS_bad (l := s.data.toList) (fun t n h => by rw [hy] at h; cases h)
    rw [hy] at c1
    generalize chkSign s.data.toList = c at *
    unfold fsV tkV at c1
    simp only at c1
    clear hy hlen
    go_enter Tryz.func50, Tryz.ntmps50
    go_wp2_with fail
    refine c1.mono ?_
    rintro _ w1 ⟨rfl, f1⟩
    have F1 : Hid _ := f1
    clear c1 f1
    go_wp2_with fail
    go_ret2
    exact ⟨by rw [HC.out]; rfl, Fr.alloc F1.out _⟩
  | .ok (t, n) =>
    rw [hy] at c1
    by_cases hn : n = s.size
    · obtain ⟨q1, q2⟩ := chkS_ok hy (by omega)
      have HC : Hid _ := q1
      subst hn
      generalize chkSign s.data.toList = c at *
      obtain ⟨tk, tn, ts⟩ := t
      simp only at q2
      subst q2
      unfold fsV tkV at c1
      simp only [dl_eq] at c1
      clear hy hlen q1
      go_enter Tryz.func50, Tryz.ntmps50
      go_wp2_with fail
      refine c1.mono ?_
      rintro _ w1 ⟨rfl, f1⟩
      have F1 : Hid _ := f1
      clear c1 f1
      go_wp2_with fail
      go_ret2
      exact ⟨by rw [HC.out]; rfl, Fr.alloc F1.out _⟩
    · have HC : Hid _ := chkS_bad (l := s.data.toList) (fun t' n' h => by rw [hy] at h; cases h; omega)
      generalize chkSign s.data.toList = c at *
      obtain ⟨tk, tn, ts⟩ := t
      have z1 : ((n : Int) != (s.size : Int)) = true := by simp; omega
      have z2 : ¬ ((n : Int) = (s.size : Int)) := by omega
      unfold fsV tkV at c1
      simp only at c1
      clear hy hlen hn
      go_enter Tryz.func50, Tryz.ntmps50
      go_wp2_with fail
      refine c1.mono ?_
      rintro _ w1 ⟨rfl, f1⟩
      have F1 : Hid _ := f1
      clear c1 f1
      go_wp2_with fail
      go_ret2
      exact ⟨by rw [HC.out]; rfl, Fr.alloc F1.out _⟩
end Go.Proofs.YtoagobpkenfbkaaGreatDoor
