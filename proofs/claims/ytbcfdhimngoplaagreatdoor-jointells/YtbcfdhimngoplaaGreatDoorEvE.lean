/-
  What liked of package eval answers.
-/
import Derived.Test.YtbcfdhimngoplaaGreatDoorEvD
import Derived.Test.YtbcfdhimngoplaaGreatDoorGpC
namespace Go.Proofs.YtbcfdhimngoplaaGreatDoor
open Go.ChangeShapes Go.WideShapes Go.ChangeAt Go.RowKit
set_option linter.unusedVariables false
set_option linter.unusedSimpArgs false
set_option maxRecDepth 100000
set_option maxHeartbeats 2000000
namespace EV
open VM
def bad (v : Vl) : Bool := decide (v.k = 1) || decide (v.k = 3)
def lk (t p : Vl) : Except Nat Int := if bad t = true ∨ bad p = true then .error 7 else if t.k = 0 ∨ p.k = 0 then .ok 1 else if merr p.s t.s ≠ 0 then .error (merr p.s t.s) else .ok (if mtc p.s t.s = true then 2 else 0)
end EV
theorem bad_cases (k : Int) (n : Int) (s : ByteArray) (q : Bool) (h : EV.bad ⟨k, n, s⟩ = q) : (q = true ∧ (k = 1 ∨ k = 3)) ∨ (q = false ∧ k ≠ 1 ∧ k ≠ 3) := by
 subst h
 unfold EV.bad
 by_cases h1 : k = 1
 · left; exact ⟨by simp [h1], .inl h1⟩
 ·
  by_cases h3 : k = 3
  · left; exact ⟨by simp [h3], .inr h3⟩
  · right; exact ⟨by simp [h1, h3], h1, h3⟩
theorem liked_any (t p : VM.Vl) (w : World) (ht : t.s.size ≤ 9223372036854775807) (hp : p.s.size ≤ 9223372036854775807) (hT : Tb w) :
  Calls Tryz.prog 114 #[vlV t, vlV p] w fun e w' => e = .returned (exT (EV.lk t p)) ∧ Fr w w' := by
 have HL : Hid (EV.lk t p = if EV.bad t = true ∨ EV.bad p = true then .error 7 else if t.k = 0 ∨ p.k = 0 then .ok 1 else if merr p.s t.s ≠ 0 then .error (merr p.s t.s) else .ok (if mtc p.s t.s = true then 2 else 0)) := rfl
 have cm := fun W (f : Fr w W) => match_any p.s t.s W hp ht (hT.fr f)
 obtain ⟨tk, tn, ts⟩ := t
 obtain ⟨pk, pn, ps⟩ := p
 simp only [vlV] at *
 generalize EV.lk ⟨tk, tn, ts⟩ ⟨pk, pn, ps⟩ = R at *
 have ht1 := bad_cases tk tn ts _ rfl
 have hp1 := bad_cases pk pn ps _ rfl
 generalize EV.bad ⟨tk, tn, ts⟩ = bt at *
 generalize EV.bad ⟨pk, pn, ps⟩ = bp at *
 generalize merr ps ts = me at *
 generalize mtc ps ts = mt at *
 obtain ⟨W1, hW1⟩ : ∃ W1, ((w.alloc (.cells #[.int .i64 tk, .int .i64 tn, .string ts] 56)).alloc (.cells #[.int .i64 pk, .int .i64 pn, .string ps] 56)).alloc (.cells #[.int .i64 tk, .int .i64 tn, .string ts, .int .i64 pk, .int .i64 pn, .string ps] 56) = W1 := ⟨_, rfl⟩
 have b2 : Blk W1 w.heap.size #[.int .i64 tk, .int .i64 tn, .string ts] 56 := by rw [← hW1]; exact ((Blk.new w _ _).old _).old _
 have b3 : Blk W1 (w.heap.size + 1) #[.int .i64 pk, .int .i64 pn, .string ps] 56 := by
  have := (Blk.new (w.alloc (.cells #[.int .i64 tk, .int .i64 tn, .string ts] 56)) #[.int .i64 pk, .int .i64 pn, .string ps] 56).old (.cells #[.int .i64 tk, .int .i64 tn, .string ts, .int .i64 pk, .int .i64 pn, .string ps] 56)
  rw [World.size_alloc, hW1] at this; exact this
 have b4 : Blk W1 (w.heap.size + 1 + 1) #[.int .i64 tk, .int .i64 tn, .string ts, .int .i64 pk, .int .i64 pn, .string ps] 56 := by
  have := Blk.new ((w.alloc (.cells #[.int .i64 tk, .int .i64 tn, .string ts] 56)).alloc (.cells #[.int .i64 pk, .int .i64 pn, .string ps] 56)) #[.int .i64 tk, .int .i64 tn, .string ts, .int .i64 pk, .int .i64 pn, .string ps] 56
  rw [World.size_alloc, World.size_alloc, hW1] at this; exact this
 have f1 : Fr w W1 := by rw [← hW1]; exact (((Fr.refl w).alloc _).alloc _).alloc _
 have HB2 := hideP b2
 have HB3 := hideP b3
 have HB4 := hideP b4
 have F1 := hideP f1
 clear b2 b3 b4 f1
 go_enter Tryz.func114, Tryz.ntmps114
 go_wp2_with fail
 go_loopw [7, 14] (fun _ iv wr => ∃ i : Nat, iv = .int .i64 i ∧ i ≤ 2 ∧ (1 ≤ i → bt = false) ∧ (2 ≤ i → bp = false) ∧ Fr W1 wr) (fun _ iv _ => 2 - (intOf iv).toNat)
 case atStart => exact ⟨0, rfl, by omega, fun h => by omega, fun h => by omega, by first | exact Fr.refl _ | (rw [hW1]; exact Fr.refl _)⟩
 case round =>
  obtain ⟨i, rfl, hi, h1, h2, hfr⟩ := hrel
  have HF := hideP hfr
  have HF1 := hideP (F1.out.trans hfr)
  have HB4r := hideP (HB4.out.fr hfr)
  clear hfr
  match i, hi with
  | 0, _ =>
   have c0 := HB4r.out.cell 0 rfl
   have c1 := HB4r.out.cell 1 rfl
   have c2 := HB4r.out.cell 2 rfl
   rcases ht1 with ⟨rfl, h | h⟩ | ⟨rfl, g1, g3⟩
   ·
    subst h
    have HZ := hideP (HL.out.trans (if_pos (.inl rfl)))
    clear h1 h2 hp1
    go_wp2_with fail
    go_ret2
    exact ⟨by rw [HZ.out]; rfl, HF1.out.alloc _⟩
   ·
    subst h
    have HZ := hideP (HL.out.trans (if_pos (.inl rfl)))
    clear h1 h2 hp1
    go_wp2_with fail
    go_ret2
    exact ⟨by rw [HZ.out]; rfl, HF1.out.alloc _⟩
   ·
    have e1 : (tk == 1) = false := by simpa using g1
    have e3 : (tk == 3) = false := by simpa using g3
    clear h1 h2 hp1
    go_wp2_with fail
    go_roundw
    case rel => exact ⟨1, by go_num, by omega, fun _ => (by first | rfl | trivial), fun h => by omega, HF.out.alloc _⟩
    case measure => simp [intOf]
  | 1, _ =>
   obtain rfl := h1 (by omega)
   have c0 := HB4r.out.cell 3 rfl
   have c1 := HB4r.out.cell 4 rfl
   have c2 := HB4r.out.cell 5 rfl
   rcases hp1 with ⟨rfl, h | h⟩ | ⟨rfl, g1, g3⟩
   ·
    subst h
    have HZ := hideP (HL.out.trans (if_pos (.inr rfl)))
    clear h1 h2 ht1
    go_wp2_with fail
    go_ret2
    exact ⟨by rw [HZ.out]; rfl, HF1.out.alloc _⟩
   ·
    subst h
    have HZ := hideP (HL.out.trans (if_pos (.inr rfl)))
    clear h1 h2 ht1
    go_wp2_with fail
    go_ret2
    exact ⟨by rw [HZ.out]; rfl, HF1.out.alloc _⟩
   ·
    have e1 : (pk == 1) = false := by simpa using g1
    have e3 : (pk == 3) = false := by simpa using g3
    clear h1 h2 ht1
    go_wp2_with fail
    go_roundw
    case rel => exact ⟨2, by go_num, by omega, fun _ => (by first | rfl | trivial), fun _ => (by first | rfl | trivial), HF.out.alloc _⟩
    case measure => simp [intOf]
  | 2, _ =>
   obtain rfl := h1 (by omega)
   obtain rfl := h2 (by omega)
   have HZ0 := hideP (HL.out.trans (if_neg (by simp)))
   have q0 := (HB2.out.fr HF.out).cell 0 rfl
   have q2 := (HB2.out.fr HF.out).cell 2 rfl
   have r0 := (HB3.out.fr HF.out).cell 0 rfl
   have r2 := (HB3.out.fr HF.out).cell 2 rfl
   have cm' := cm wr HF1.out
   clear h1 h2 ht1 hp1 HL cm
   by_cases ht0 : tk = 0
   ·
    have HZ := hideP (HZ0.out.trans (if_pos (.inl ht0)))
    subst ht0
    go_wp2_with fail
    go_ret2
    exact ⟨by rw [HZ.out]; rfl, HF1.out⟩
   ·
    have e0 : (tk == 0) = false := by simpa using ht0
    by_cases hp0 : pk = 0
    ·
     have HZ := hideP (HZ0.out.trans (if_pos (.inr hp0)))
     subst hp0
     go_wp2_with fail
     go_ret2
     exact ⟨by rw [HZ.out]; rfl, HF1.out⟩
    ·
     have e0' : (pk == 0) = false := by simpa using hp0
     replace HZ0 := hideP (HZ0.out.trans (if_neg (by simp [ht0, hp0])))
     by_cases hme : me = 0
     ·
      have HZ := hideP (HZ0.out.trans (if_neg (by simp [hme])))
      subst hme
      rw [decide_eq_true rfl, Bool.true_and] at cm'
      cases mt with
      | true =>
       go_wp2_with fail
       refine cm'.mono ?_
       rintro _ w5 ⟨rfl, f5⟩
       have FF := hideP (HF1.out.trans f5)
       clear f5
       go_wp2_with fail
       refine (truthIf_any _ _).mono ?_
       rintro _ w6 ⟨rfl, rfl⟩
       go_wp2_with fail
       go_ret2
       exact ⟨by rw [HZ.out]; rfl, FF.out⟩
      | false =>
       go_wp2_with fail
       refine cm'.mono ?_
       rintro _ w5 ⟨rfl, f5⟩
       have FF := hideP (HF1.out.trans f5)
       clear f5
       go_wp2_with fail
       refine (truthIf_any _ _).mono ?_
       rintro _ w6 ⟨rfl, rfl⟩
       go_wp2_with fail
       go_ret2
       exact ⟨by rw [HZ.out]; rfl, FF.out⟩
     ·
      have HZ := hideP (HZ0.out.trans (if_pos hme))
      rw [decide_eq_false hme, Bool.false_and] at cm'
      go_wp2_with fail
      refine cm'.mono ?_
      rintro _ w5 ⟨rfl, f5⟩
      have FF := hideP (HF1.out.trans f5)
      clear f5
      go_wp2_with fail
      refine (truthIf_any _ _).mono ?_
      rintro _ w6 ⟨rfl, rfl⟩
      go_wp2_with fail
      go_ret2
      exact ⟨by rw [HZ.out]; rfl, FF.out⟩
end Go.Proofs.YtbcfdhimngoplaaGreatDoor
