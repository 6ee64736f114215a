/-
  What must be in any case (lexBegun).
-/
import Derived.Test.YtoagobpkenfbkaaGreatDoorLyF
namespace Go.Proofs.YtoagobpkenfbkaaGreatDoor
open Go.ChangeShapes Go.WideShapes Go.ChangeAt Go.RowKit Go.Shelf
set_option linter.unusedVariables false
set_option linter.unusedSimpArgs false
set_option maxRecDepth 100000

def begL : List UInt8 := [83, 101, 108, 101, 99, 116, 32, 39, 105, 116, 39, 39, 115, 39, 60, 61, 120, 39, 48, 65, 39, 32, 45, 45, 32, 115, 111, 10, 49, 50]
def begT : List (Nat × LX.Tk) := [(0, ⟨1, 0, [115, 101, 108, 101, 99, 116]⟩), (7, ⟨3, 0, [105, 116, 39, 115]⟩), (14, ⟨5, 0, [60, 61]⟩), (16, ⟨4, 0, [10]⟩), (28, ⟨2, 12, []⟩)]
theorem begLex : LX.lex begL = .ok begT := by rfl
theorem begBad : LX.lex [97, 32, 32, 49, 50, 98] = .error (3, 1) := by rfl
def begP : List LX.Tk := [⟨1, 0, [97]⟩, ⟨5, 0, [60, 61]⟩, ⟨2, 7, []⟩]
theorem begPr : prE begP = 0 ∧ LX.pt begP = [97, 32, 60, 61, 32, 55] := by decide +kernel

theorem begun1 (w : World) (hT : Tb w) : Calls Tryz.prog 9 #[.string ⟨begL.toArray⟩] w fun e w' => ∃ g cap, e = .returned (.tuple #[.slice (some ⟨g, 0, none⟩) 5 cap, .int .i64 0, .int .i64 0]) ∧ g < w'.heap.size ∧ TokAt w' g 0 (tz begT) ∧ Fr w w' := by
  refine (lex_any ⟨begL.toArray⟩ w (by decide) hT).mono ?_
  rintro e w' ⟨h1, hf⟩
  rw [show (⟨begL.toArray⟩ : ByteArray).data.toList = begL from rfl, begLex] at h1
  obtain ⟨v, rfl, ho⟩ := h1
  obtain ⟨a, cap, hv, h0 | ⟨b, o, rfl, hb, hc⟩⟩ := ho.tk
  · cases h0
  · rcases ho.2 with ⟨_, h0⟩ | ⟨g, cap2, cur, hv2, _⟩
    · cases h0
    · rw [hv2] at hv
      injection hv with e1 e2 e3
      injection e1 with e1
      injection e1 with e1 e4 e5
      subst e1 e4 e3
      exact ⟨_, _, by rw [hv2]; rfl, hb, hc, hf⟩
theorem begun2 (w : World) (hT : Tb w) : Calls Tryz.prog 9 #[.string ⟨#[97, 32, 32, 49, 50, 98]⟩] w fun e w' => e = .returned (.tuple #[.slice none 0 0, .int .i64 3, .int .i64 1]) ∧ Fr w w' := by
  refine (lex_any ⟨#[97, 32, 32, 49, 50, 98]⟩ w (by decide) hT).mono ?_
  rintro e w' ⟨h1, hf⟩
  rw [show (⟨#[97, 32, 32, 49, 50, 98]⟩ : ByteArray).data.toList = [97, 32, 32, 49, 50, 98] from rfl, begBad] at h1
  exact ⟨h1, hf⟩
theorem lit3t (w : World) : IsTk (w.alloc (.cells #[.int .i64 1, .int .i64 0, .int .i64 0, .string ⟨#[97]⟩, .int .i64 5, .int .i64 0, .int .i64 0, .string ⟨#[60, 61]⟩, .int .i64 2, .int .i64 0, .int .i64 7, .string ⟨#[]⟩] 29)) (.slice (some ⟨w.heap.size, 0, none⟩) 3 3) (begP.map fun t => (0, t)) := by
  refine ⟨_, 3, rfl, Or.inr ⟨w.heap.size, 0, rfl, by simp, ?_⟩⟩
  intro i hi
  match i, hi with
  | 0, _ => simp [go_sem, begP]
  | 1, _ => simp [go_sem, begP]
  | 2, _ => simp [go_sem, begP]
theorem begun3 (w : World) (hT : Tb w) : Calls Tryz.prog 13 #[.slice (some ⟨w.heap.size, 0, none⟩) 3 3] (w.alloc (.cells #[.int .i64 1, .int .i64 0, .int .i64 0, .string ⟨#[97]⟩, .int .i64 5, .int .i64 0, .int .i64 0, .string ⟨#[60, 61]⟩, .int .i64 2, .int .i64 0, .int .i64 7, .string ⟨#[]⟩] 29)) fun e w' => e = .returned (.tuple #[.string ⟨#[97, 32, 60, 61, 32, 55]⟩, .int .i64 0]) ∧ Fr w w' := by
  refine (print_any _ _ _ (lit3t w) (by decide) (by decide) (hT.fr ((Fr.refl w).alloc _))).mono ?_
  rintro e w' ⟨rfl, hf⟩
  refine ⟨?_, ((Fr.refl w).alloc _).trans hf⟩
  rw [show (begP.map fun t => ((0 : Int), t)).map (·.2) = begP from rfl, prV_ok begPr.1, begPr.2]
theorem cell_fr {w w' : World} {a : Addr} {v : Value} (h : w.cell? a = some v) (f : Fr w w') : w'.cell? a = some v := (Below.cell f (World.block_lt_of_cell? _ _ h)).trans h

set_option maxHeartbeats 8000000 in
theorem begun_any (w : World) (hT : Tb w) : Calls Tryz.prog 11 #[] w fun e w' => e = .returned (.bool true) ∧ Fr w w' := by
  go_enter Tryz.func11, Tryz.ntmps11
  go_wp2_with fail
  refine (begun1 w hT).mono ?_
  rintro _ w1 ⟨g, cap, rfl, hg, hc, f1⟩
  go_wp2_with fail
  refine (begun2 w1 (hT.fr f1)).mono ?_
  rintro _ w2 ⟨rfl, f2⟩
  have F2 : Fr w w2 := f1.trans f2
  have hg2 := Nat.lt_of_lt_of_le hg f2.size
  have hc2 := hc.fr hg f2
  clear f1 f2 hg hc
  go_wp2_with fail
  refine (begun3 w2 (hT.fr F2)).mono ?_
  rintro _ w3 ⟨rfl, f3⟩
  have HF : Hid (Fr w w3) := F2.trans f3
  have hc3 := hc2.fr hg2 f3
  clear F2 f3 hc2 hg2 hT
  obtain ⟨a0, a1, a2, a3⟩ := hc3 0 (by decide)
  obtain ⟨b0, b1, b2, b3⟩ := hc3 1 (by decide)
  obtain ⟨c0, c1, c2, c3⟩ := hc3 2 (by decide)
  obtain ⟨d0, d1, d2, d3⟩ := hc3 3 (by decide)
  obtain ⟨e0, e1, e2, e3⟩ := hc3 4 (by decide)
  clear hc3
  simp [tz, begT] at a0 a1 a2 a3 b0 b1 b2 b3 c0 c1 c2 c3 d0 d1 d2 d3 e0 e1 e2 e3
  go_wp2_with fail

  refine (reserved_by _).mono ?_
  rintro _ w4 ⟨rfl, rfl⟩
  go_wp2_with fail
  refine (reserved_name _).mono ?_
  rintro _ w5 ⟨rfl, rfl⟩
  go_wp2_with fail
  go_ret
  exact ⟨rfl, HF.out⟩
end Go.Proofs.YtoagobpkenfbkaaGreatDoor
