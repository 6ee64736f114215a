/-
  numberOf.
-/
import Derived.Test.YtoagobpkenfbkaaGreatDoorLxT
namespace Go.Proofs.YtoagobpkenfbkaaGreatDoor
open Go.ChangeShapes Go.WideShapes Go.ChangeAt Go.RowKit Go.Shelf
set_option linter.unusedVariables false
set_option linter.unusedSimpArgs false

/-- a number that was made of a value -/
def numR (size : Nat) (r : VS.Rd) : Except Nat (LX.Tk × Nat) := if r.e = 0 then .ok (⟨2, r.n, []⟩, size) else .error r.e
theorem numR_ok (n : Nat) (a b : Int) (c : List UInt8) : numR n ⟨a, b, c, 0⟩ = .ok (⟨2, b, []⟩, n) := rfl
theorem numR_bad (n : Nat) (a b : Int) (c : List UInt8) (d : Nat) (h : ¬ d = 0) : numR n ⟨a, b, c, d⟩ = .error d := if_neg h
theorem number_letter {l : List UInt8} {b : UInt8} {t : List UInt8} (h : l.drop (LX.run VS.dig l) = b :: t) (hb : LX.letter b = true) : LX.number l = .error 1 := by
  unfold LX.number
  rw [h]
  exact if_pos hb
theorem number_else {l : List UInt8} {b : UInt8} {t : List UInt8} (h : l.drop (LX.run VS.dig l) = b :: t) (hb : LX.letter b = false) : LX.number l = numR (LX.run VS.dig l) (VS.rd (l.take (LX.run VS.dig l))) := by
  unfold LX.number
  rw [h]
  exact if_neg (by rw [hb]; decide)
theorem number_end {l : List UInt8} (h : l.drop (LX.run VS.dig l) = []) : LX.number l = numR (LX.run VS.dig l) (VS.rd (l.take (LX.run VS.dig l))) := by
  unfold LX.number
  rw [h]
  rfl

set_option maxRecDepth 100000 in
set_option maxHeartbeats 2000000 in
theorem numberOf_any (s : ByteArray) (w : World) (hs : s.size ≤ 140737488355327) (hT : Tb w) :
    Calls Tryz.prog 38 #[.string s] w fun e w' => e = .returned (fsV (LX.number s.data.toList)) ∧ Fr w w' := by
  obtain ⟨W0, hW0⟩ : ∃ W0, w.alloc (.cells #[.int .i64 0, .int .i64 0, .int .i64 0, .string ⟨#[]⟩] 29) = W0 := ⟨_, rfl⟩
  have f0 : Fr w W0 := by rw [← hW0]; exact (Fr.refl w).alloc _
  have hb0 : Bt W0 w.heap.size 0 0 0 ⟨#[]⟩ := by rw [← hW0]; exact Bt.new _ _ _ _ _
  have HW : Hid _ := hW0
  clear hW0
  have c0 := runDigit s W0 hs VS.dig (fun b W => isDigit_any b W)
  have h1 := LX.run_le VS.dig s.data.toList
  rw [dlenx] at h1
  have hlen := dlenx s
  have hget : ∀ i (h : i < s.size), s.data.toList[i]'(by omega) = s[i] := fun i h => rfl
  have hA := @number_letter s.data.toList
  have hB := @number_else s.data.toList
  have hC := @number_end s.data.toList
  generalize LX.run VS.dig s.data.toList = r1 at *
  have c1 := of_any (s.extract 0 r1) W0 (by rw [ByteArray.size_extract]; omega) (hT.fr f0)
  rw [ext_take] at c1
  generalize VS.rd (s.data.toList.take r1) = r at *
  obtain ⟨a, b, c, d⟩ := r
  generalize LX.number s.data.toList = q at *
  have h4 : (r1 : Int) ≤ (s.size : Int) := by omega
  unfold rdV at c1
  by_cases hlt : r1 < s.size
  · have hltZ : (r1 : Int) < (s.size : Int) := by omega
    have hd : s.data.toList.drop r1 = s[r1] :: s.data.toList.drop (r1 + 1) := by
      rw [List.drop_eq_getElem_cons (by omega), hget r1 hlt]
    have cl := isLetter_any s[r1] W0
    replace hA := hA hd
    replace hB := hB hd
    cases hb : LX.letter s[r1] with
    | true =>
      rw [hb] at cl
      have HQ : Hid _ := hA hb
      clear hA hB hC hd hb hget hlen c1
      go_enter Tryz.func38, Tryz.ntmps38
      go_wp2_with fail
      rw [HW.out]
      refine c0.mono ?_
      rintro _ w1 ⟨rfl, rfl⟩
      go_wp2_with fail
      refine cl.mono ?_
      rintro _ w2 ⟨rfl, rfl⟩
      have d0 := hb0.c0
      have d1 := hb0.c1
      have d2 := hb0.c2
      have d3 := hb0.c3
      have z0 := hb0.z 0
      have z1 := hb0.z 1
      have z2 := hb0.z 2
      have z3 := hb0.z 3
      have F1 : Hid (Fr w w2) := f0
      clear c0 cl hb0 f0 HW
      go_wp2_with fail
      refine bodyPost_ret (v := .tuple #[.agg #[.int .i64 0, .int .i64 0, .int .i64 0, .string ⟨#[]⟩], .int .i64 0, .int .i64 1]) (by simp [results, Tryz.results38, go_sem, d0, d1, d2, d3]) rfl ?_
      exact ⟨by rw [HQ.out]; rfl, fr_set4 F1.out (Nat.le_refl _) _ _ _ _⟩
    | false =>
      rw [hb] at cl
      have HQ : Hid _ := hB hb
      clear hA hB hC hd hb hget hlen
      by_cases hd : d = 0
      · subst hd
        rw [numR_ok] at HQ
        go_enter Tryz.func38, Tryz.ntmps38
        go_wp2_with fail
        rw [HW.out]
        refine c0.mono ?_
        rintro _ w1 ⟨rfl, rfl⟩
        go_wp2_with fail
        refine cl.mono ?_
        rintro _ w2 ⟨rfl, rfl⟩
        go_wp2_with fail
        refine c1.mono ?_
        rintro _ w3 ⟨rfl, f1⟩
        have hb1 : Bt (w3.alloc (.cells #[.int .i64 a, .int .i64 b, .string ⟨c.toArray⟩] 48)) w.heap.size 0 0 0 ⟨#[]⟩ := hb0.fr (f1.trans ((Fr.refl _).alloc _))
        have d0 := hb1.c0
        have d1 := hb1.c1
        have d2 := hb1.c2
        have d3 := hb1.c3
        have z0 := hb1.z 0
        have z1 := hb1.z 1
        have z2 := hb1.z 2
        have z3 := hb1.z 3
        have F1 : Hid (Fr w (w3.alloc (.cells #[.int .i64 a, .int .i64 b, .string ⟨c.toArray⟩] 48))) := f0.trans (f1.trans ((Fr.refl _).alloc _))
        clear c0 c1 hb0 f0 f1 HW hb1 cl
        go_wp2_with fail
        refine bodyPost_ret (v := .tuple #[.agg #[.int .i64 2, .int .i64 0, .int .i64 b, .string ⟨#[]⟩], .int .i64 r1, .int .i64 0]) (by simp [results, Tryz.results38, go_sem, d0, d1, d2, d3]) rfl ?_
        exact ⟨by rw [HQ.out]; rfl, fr_set4 F1.out (Nat.le_refl _) _ _ _ _⟩
      · rw [numR_bad _ _ _ _ _ hd] at HQ
        have e1 : ((d : Int) != 0) = true := by simp; omega
        have e2 : ¬ ((d : Int) = 0) := by omega
        go_enter Tryz.func38, Tryz.ntmps38
        go_wp2_with fail
        rw [HW.out]
        refine c0.mono ?_
        rintro _ w1 ⟨rfl, rfl⟩
        go_wp2_with fail
        refine cl.mono ?_
        rintro _ w2 ⟨rfl, rfl⟩
        go_wp2_with fail
        refine c1.mono ?_
        rintro _ w3 ⟨rfl, f1⟩
        have hb1 : Bt (w3.alloc (.cells #[.int .i64 a, .int .i64 b, .string ⟨c.toArray⟩] 48)) w.heap.size 0 0 0 ⟨#[]⟩ := hb0.fr (f1.trans ((Fr.refl _).alloc _))
        have d0 := hb1.c0
        have d1 := hb1.c1
        have d2 := hb1.c2
        have d3 := hb1.c3
        have z0 := hb1.z 0
        have z1 := hb1.z 1
        have z2 := hb1.z 2
        have z3 := hb1.z 3
        have F1 : Hid (Fr w (w3.alloc (.cells #[.int .i64 a, .int .i64 b, .string ⟨c.toArray⟩] 48))) := f0.trans (f1.trans ((Fr.refl _).alloc _))
        clear c0 c1 hb0 f0 f1 HW hb1 cl
        go_wp2_with fail
        refine bodyPost_ret (v := .tuple #[.agg #[.int .i64 0, .int .i64 0, .int .i64 0, .string ⟨#[]⟩], .int .i64 0, .int .i64 d]) (by simp [results, Tryz.results38, go_sem, d0, d1, d2, d3]) rfl ?_
        exact ⟨by rw [HQ.out]; rfl, fr_set4 F1.out (Nat.le_refl _) _ _ _ _⟩
  · have hltZ : ¬ (r1 : Int) < (s.size : Int) := by omega
    have hltB : decide ((r1 : Int) < (s.size : Int)) = false := by rw [decide_eq_false_iff_not]; omega
    have hltE : ((r1 : Int) < (s.size : Int)) = False := by simp; omega
    have hltG : (s.size : Int) ≤ (r1 : Int) := by omega
    have HQ : Hid _ := hC (List.drop_of_length_le (by omega))
    clear hA hB hC hget hlen
    by_cases hd : d = 0
    · subst hd
      rw [numR_ok] at HQ
      go_enter Tryz.func38, Tryz.ntmps38
      go_wp2_with fail
      rw [HW.out]
      refine c0.mono ?_
      rintro _ w1 ⟨rfl, rfl⟩
      go_wp2_with fail
      refine c1.mono ?_
      rintro _ w3 ⟨rfl, f1⟩
      have hb1 : Bt (w3.alloc (.cells #[.int .i64 a, .int .i64 b, .string ⟨c.toArray⟩] 48)) w.heap.size 0 0 0 ⟨#[]⟩ := hb0.fr (f1.trans ((Fr.refl _).alloc _))
      have d0 := hb1.c0
      have d1 := hb1.c1
      have d2 := hb1.c2
      have d3 := hb1.c3
      have z0 := hb1.z 0
      have z1 := hb1.z 1
      have z2 := hb1.z 2
      have z3 := hb1.z 3
      have F1 : Hid (Fr w (w3.alloc (.cells #[.int .i64 a, .int .i64 b, .string ⟨c.toArray⟩] 48))) := f0.trans (f1.trans ((Fr.refl _).alloc _))
      clear c0 c1 hb0 f0 f1 HW hb1
      go_wp2_with fail
      refine bodyPost_ret (v := .tuple #[.agg #[.int .i64 2, .int .i64 0, .int .i64 b, .string ⟨#[]⟩], .int .i64 r1, .int .i64 0]) (by simp [results, Tryz.results38, go_sem, d0, d1, d2, d3]) rfl ?_
      exact ⟨by rw [HQ.out]; rfl, fr_set4 F1.out (Nat.le_refl _) _ _ _ _⟩
    · rw [numR_bad _ _ _ _ _ hd] at HQ
      have e1 : ((d : Int) != 0) = true := by simp; omega
      have e2 : ¬ ((d : Int) = 0) := by omega
      go_enter Tryz.func38, Tryz.ntmps38
      go_wp2_with fail
      rw [HW.out]
      refine c0.mono ?_
      rintro _ w1 ⟨rfl, rfl⟩
      go_wp2_with fail
      refine c1.mono ?_
      rintro _ w3 ⟨rfl, f1⟩
      have hb1 : Bt (w3.alloc (.cells #[.int .i64 a, .int .i64 b, .string ⟨c.toArray⟩] 48)) w.heap.size 0 0 0 ⟨#[]⟩ := hb0.fr (f1.trans ((Fr.refl _).alloc _))
      have d0 := hb1.c0
      have d1 := hb1.c1
      have d2 := hb1.c2
      have d3 := hb1.c3
      have z0 := hb1.z 0
      have z1 := hb1.z 1
      have z2 := hb1.z 2
      have z3 := hb1.z 3
      have F1 : Hid (Fr w (w3.alloc (.cells #[.int .i64 a, .int .i64 b, .string ⟨c.toArray⟩] 48))) := f0.trans (f1.trans ((Fr.refl _).alloc _))
      clear c0 c1 hb0 f0 f1 HW hb1
      go_wp2_with fail
      refine bodyPost_ret (v := .tuple #[.agg #[.int .i64 0, .int .i64 0, .int .i64 0, .string ⟨#[]⟩], .int .i64 0, .int .i64 d]) (by simp [results, Tryz.results38, go_sem, d0, d1, d2, d3]) rfl ?_
      exact ⟨by rw [HQ.out]; rfl, fr_set4 F1.out (Nat.le_refl _) _ _ _ _⟩
end Go.Proofs.YtoagobpkenfbkaaGreatDoor
