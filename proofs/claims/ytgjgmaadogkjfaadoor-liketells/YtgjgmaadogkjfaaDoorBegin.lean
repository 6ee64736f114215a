/-
  What must be in any case (likeBegun).
-/
import Derived.Test.YtgjgmaadogkjfaaDoorKBegun
namespace Go.Proofs.YtgjgmaadogkjfaaDoor
open Go.ChangeShapes Go.WideShapes Go.ChangeAt Go.RowKit Go.Shelf
set_option linter.unusedVariables false
set_option linter.unusedSimpArgs false

theorem m1 : (decide (merr ⟨#[97, 37, 95, 99]⟩ ⟨#[97, 98, 195, 169, 99]⟩ = 0) && mtc ⟨#[97, 37, 95, 99]⟩ ⟨#[97, 98, 195, 169, 99]⟩) = true ∧ merr ⟨#[97, 37, 95, 99]⟩ ⟨#[97, 98, 195, 169, 99]⟩ = 0 := by decide +kernel
theorem m2 : (decide (merr ⟨#[92, 37, 95]⟩ ⟨#[37, 255]⟩ = 0) && mtc ⟨#[92, 37, 95]⟩ ⟨#[37, 255]⟩) = true ∧ merr ⟨#[92, 37, 95]⟩ ⟨#[37, 255]⟩ = 0 := by decide +kernel
theorem m3 : (decide (merr ⟨#[95]⟩ ⟨#[195, 255]⟩ = 0) && mtc ⟨#[95]⟩ ⟨#[195, 255]⟩) = false ∧ merr ⟨#[95]⟩ ⟨#[195, 255]⟩ = 0 := by decide +kernel
theorem m4 : (decide (merr ⟨#[97, 92]⟩ ⟨#[97]⟩ = 0) && mtc ⟨#[97, 92]⟩ ⟨#[97]⟩) = false ∧ merr ⟨#[97, 92]⟩ ⟨#[97]⟩ = 1 := by decide +kernel
theorem m5 : pfx ⟨#[97, 92, 95, 98, 37]⟩ = [97, 95, 98] ∧ whl ⟨#[97, 92, 95, 98, 37]⟩ = false ∧ perr ⟨#[97, 92, 95, 98, 37]⟩ = 0 := by decide +kernel
theorem m6 : LK.pc [97, 226, 130, 172, 226, 130] = [[97], [226, 130, 172], [226], [130]] := by decide +kernel

theorem lit4 (w : World) (x0 x1 x2 x3 : LK.Bs) (t : TypeId) : IsTx (w.alloc (.cells #[sv x0, sv x1, sv x2, sv x3] t)) (.slice (some ⟨w.heap.size, 0, none⟩) 4 4) [x0, x1, x2, x3] := by
  refine ⟨_, 4, rfl, Nat.le_refl _, Or.inr ⟨w.heap.size, rfl, by simp, fun i x hi => ?_⟩⟩
  match i, hi with
  | 0, hi => simp at hi; subst hi; simp
  | 1, hi => simp at hi; subst hi; simp
  | 2, hi => simp at hi; subst hi; simp
  | 3, hi => simp at hi; subst hi; simp

set_option maxRecDepth 100000 in
set_option maxHeartbeats 2000000 in
theorem begun_any (w : World) (hT : Tb w) : Calls Tryd.prog 12 #[] w fun e w' => e = .returned (.bool true) ∧ Fr w w' := by
  have c1 := match_any ⟨#[97, 37, 95, 99]⟩ ⟨#[97, 98, 195, 169, 99]⟩ w (by decide) (by decide) hT
  rw [m1.1, m1.2] at c1
  go_enter Tryd.func12, Tryd.ntmps12
  go_wp2_with (go_at_call 10; refine c1.mono ?_)
  rintro _ w1 ⟨rfl, f1⟩
  clear c1
  have t1 := hT.fr f1
  have c2 := match_any ⟨#[92, 37, 95]⟩ ⟨#[37, 255]⟩ w1 (by decide) (by decide) t1
  rw [m2.1, m2.2] at c2
  go_wp2_with (go_at_call 10; refine c2.mono ?_)
  rintro _ w2 ⟨rfl, f2⟩
  clear c2
  have t2 := t1.fr f2
  have c3 := match_any ⟨#[95]⟩ ⟨#[195, 255]⟩ w2 (by decide) (by decide) t2
  rw [m3.1, m3.2] at c3
  go_wp2_with (go_at_call 10; refine c3.mono ?_)
  rintro _ w3 ⟨rfl, f3⟩
  clear c3
  have t3 := t2.fr f3
  have c4 := match_any ⟨#[97, 92]⟩ ⟨#[97]⟩ w3 (by decide) (by decide) t3
  rw [m4.1, m4.2] at c4
  go_wp2_with (go_at_call 10; refine c4.mono ?_)
  rintro _ w4 ⟨rfl, f4⟩
  clear c4
  have t4 := t3.fr f4
  have c5 := prefix_any ⟨#[97, 92, 95, 98, 37]⟩ w4 (by decide) t4
  rw [m5.1, m5.2.1, m5.2.2] at c5
  go_wp2_with (go_at_call 15; refine c5.mono ?_)
  rintro _ w5 ⟨rfl, f5⟩
  clear c5
  have t5 := t4.fr f5
  have c6 := likePieces_any ⟨#[97, 226, 130, 172, 226, 130]⟩ w5 (by decide) t5
  rw [if_neg (by decide), if_neg (by decide)] at c6
  go_wp2_with (go_at_call 14; refine c6.mono ?_)
  rintro _ w6 ⟨v, l, rfl, hl, htx, f6⟩
  rw [m6] at hl
  have HL : Hid _ := hl
  have HX : Hid _ := htx
  clear c6 hl htx
  have hz : ∀ k : Nat, k ≤ 4 → k ≤ 9223372036854775807 := fun k hk => by omega
  have c7 : Calls Tryd.prog 20 #[v, .slice (some ⟨w6.heap.size, 0, none⟩) 4 4] (w6.alloc (.cells #[.string ⟨#[97]⟩, .string ⟨#[226, 130, 172]⟩, .string ⟨#[226]⟩, .string ⟨#[130]⟩] 9)) fun e w' => e = .returned (.bool true) ∧ Fr (w6.alloc (.cells #[.string ⟨#[97]⟩, .string ⟨#[226, 130, 172]⟩, .string ⟨#[226]⟩, .string ⟨#[130]⟩] 9)) w' := by
    have h := sameTexts_any v _ l [[97], [226, 130, 172], [226], [130]] _ (IsTx.fr HX.out ((Fr.refl w6).alloc _)) (lit4 w6 [97] [226, 130, 172] [226] [130] 9) (by rw [HL.out]; decide) (by decide)
    rw [HL.out] at h
    exact h
  go_wp2_with (go_at_call 20; refine c7.mono ?_)
  rintro _ w7 ⟨rfl, f7⟩
  clear c7
  go_wp2
  go_ret
  exact ⟨rfl, (((((f1.trans f2).trans f3).trans f4).trans f5).trans f6).trans (Fr.trans ((Fr.refl w6).alloc _) f7)⟩
end Go.Proofs.YtgjgmaadogkjfaaDoor
