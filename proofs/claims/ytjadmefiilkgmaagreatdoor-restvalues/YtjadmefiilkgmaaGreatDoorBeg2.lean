/-
  What must be in any case (valueBegun).
-/
import Derived.Test.YtjadmefiilkgmaaGreatDoorBeg
namespace Go.Proofs.YtjadmefiilkgmaaGreatDoor
open Go.ChangeShapes Go.WideShapes Go.ChangeAt Go.RowKit
set_option linter.unusedVariables false
set_option linter.unusedSimpArgs false

theorem beginT (w : World) (hT : Tb w) : Calls Tryz.prog 18 #[.agg #[.int .i64 2, .int .i64 0, .string ⟨#[105, 116, 39, 115]⟩]] w fun e w' => e = .returned (.tuple #[.string ⟨#[39, 105, 116, 39, 39, 115, 39]⟩, .int .i64 0]) ∧ Fr w w' := by
  have h := show_any ⟨2, 0, ⟨#[105, 116, 39, 115]⟩⟩ (by decide) (by decide) w hT
  rw [ex1.1, ex1.2] at h
  exact h
theorem beginB (w : World) (hT : Tb w) : Calls Tryz.prog 18 #[.agg #[.int .i64 3, .int .i64 0, .string ⟨#[10, 255]⟩]] w fun e w' => e = .returned (.tuple #[.string ⟨#[120, 39, 48, 97, 102, 102, 39]⟩, .int .i64 0]) ∧ Fr w w' := by
  have h := show_any ⟨3, 0, ⟨#[10, 255]⟩⟩ (by decide) (by decide) w hT
  rw [ex2.1, ex2.2] at h
  exact h
theorem beginO (w : World) (hT : Tb w) : Calls Tryz.prog 19 #[.string ⟨#[45, 49, 50]⟩] w fun e w' => e = .returned (.tuple #[.agg #[.int .i64 1, .int .i64 (-12), .string ⟨#[]⟩], .int .i64 0]) ∧ Fr w w' := by
  have h := of_any ⟨#[45, 49, 50]⟩ w (by decide) hT
  rw [show (⟨#[45, 49, 50]⟩ : ByteArray).data.toList = [45, 49, 50] from rfl, ex3] at h
  exact h
theorem beginP (w : World) (hT : Tb w) : Calls Tryz.prog 19 #[.string ⟨#[57, 50, 50, 51, 51, 55, 50, 48, 51, 54, 56, 53, 52, 55, 55, 53, 56, 48, 56]⟩] w fun e w' => e = .returned (.tuple #[.agg #[.int .i64 0, .int .i64 0, .string ⟨#[]⟩], .int .i64 8]) ∧ Fr w w' := by
  have h := of_any ⟨#[57, 50, 50, 51, 51, 55, 50, 48, 51, 54, 56, 53, 52, 55, 55, 53, 56, 48, 56]⟩ w (by decide) hT
  rw [show (⟨#[57, 50, 50, 51, 51, 55, 50, 48, 51, 54, 56, 53, 52, 55, 55, 53, 56, 48, 56]⟩ : ByteArray).data.toList = [57, 50, 50, 51, 51, 55, 50, 48, 51, 54, 56, 53, 52, 55, 55, 53, 56, 48, 56] from rfl, ex4] at h
  exact h
theorem beginC (w : World) : Calls Tryz.prog 12 #[.agg #[.int .i64 1, .int .i64 9, .string ⟨#[]⟩], .agg #[.int .i64 2, .int .i64 0, .string ⟨#[]⟩]] w fun e w' => e = .returned (.tuple #[.int .i64 (-1), .int .i64 0]) ∧ Fr w w' := by
  have h := valCompare_any ⟨1, 9, ⟨#[]⟩⟩ ⟨2, 0, ⟨#[]⟩⟩ w
  rw [ex5.1, ex5.2] at h
  exact h
theorem beginK (w : World) : Calls Tryz.prog 16 #[.agg #[.int .i64 4, .int .i64 0, .string ⟨#[]⟩]] w fun e w' => e = .returned (.int .i64 7) ∧ Fr w w' := by
  have h := check_any 4 0 ⟨#[]⟩ w
  rw [ex8] at h
  exact h
theorem beginE (v : Value) (W0 W : World) (hr : IsRow W0 v exM) (hf : Fr W0 W) : Calls Tryz.prog 24 #[v, .slice (some ⟨W.heap.size, 0, none⟩) 3 3] (W.alloc (.cells #[.int .i64 0, .int .i64 0, .string ⟨#[]⟩, .int .i64 1, .int .i64 3, .string ⟨#[]⟩, .int .i64 2, .int .i64 0, .string ⟨#[98]⟩] 23)) fun e w' => e = .returned (.bool true) ∧ Fr (W.alloc (.cells #[.int .i64 0, .int .i64 0, .string ⟨#[]⟩, .int .i64 1, .int .i64 3, .string ⟨#[]⟩, .int .i64 2, .int .i64 0, .string ⟨#[98]⟩] 23)) w' :=
  sameRow_eq v _ exM _ (hr.fr (hf.alloc _)) (lit3 W ⟨0, 0, ⟨#[]⟩⟩ ⟨1, 3, ⟨#[]⟩⟩ ⟨2, 0, ⟨#[98]⟩⟩) (by decide)
theorem cell_fr {w w' : World} {a : Addr} {v : Value} (h : w.cell? a = some v) (f : Fr w w') : w'.cell? a = some v := (Below.cell f (World.block_lt_of_cell? _ _ h)).trans h

theorem Fr.after {a b c : World} (k : Fr b c) (h : Fr a b) : Fr a c := h.trans k
theorem cell_after {w w' : World} {a : Addr} {v : Value} (f : Fr w w') (h : w.cell? a = some v) : w'.cell? a = some v := cell_fr h f

theorem s3_after {w w' : World} {a b c : Addr} {u v z : Value} (f : Fr w w') (h : w.cell? a = some u ∧ w.cell? b = some v ∧ w.cell? c = some z) : w'.cell? a = some u ∧ w'.cell? b = some v ∧ w'.cell? c = some z := ⟨cell_fr h.1 f, cell_fr h.2.1 f, cell_fr h.2.2 f⟩
theorem s3_alloc {w : World} {a b c : Addr} {u v z : Value} (h : w.cell? a = some u ∧ w.cell? b = some v ∧ w.cell? c = some z) (o : Obj) : (w.alloc o).cell? a = some u ∧ (w.alloc o).cell? b = some v ∧ (w.alloc o).cell? c = some z := s3_after ((Fr.refl w).alloc o) h

set_option maxRecDepth 100000 in
set_option maxHeartbeats 4000000 in
theorem begun_any (w : World) (hT : Tb w) : Calls Tryz.prog 15 #[] w fun e w' => e = .returned (.bool true) ∧ Fr w w' := by
  go_enter Tryz.func15, Tryz.ntmps15
  go_wp2_with fail
  refine (vText_any _ _).mono ?_
  rintro _ w1 ⟨rfl, f1⟩
  go_wp2_with fail
  refine (beginT w1 (hT.fr f1)).mono ?_
  rintro _ w2 ⟨rfl, f2⟩
  have F2 : Fr w w2 := f1.trans f2
  clear f1 f2
  go_wp2_with fail
  refine (vBlob_any _ _).mono ?_
  rintro _ w3 ⟨rfl, f3⟩
  have F3 := F2.trans f3
  clear f3 F2
  go_wp2_with fail
  refine (beginB w3 (hT.fr F3)).mono ?_
  rintro _ w4 ⟨rfl, f4⟩
  have F4 := F3.trans f4
  clear F3 f4
  go_wp2_with fail
  refine (beginO w4 (hT.fr F4)).mono ?_
  rintro _ w5 ⟨rfl, f5⟩
  have F5 := F4.trans f5
  clear F4 f5
  have b5 := Bx.new w5 1 (-12) ⟨#[]⟩
  have F6 := F5.alloc (.cells #[.int .i64 1, .int .i64 (-12), .string ⟨#[]⟩] 23)
  obtain ⟨g5, hg5⟩ : ∃ g, w5.heap.size = g := ⟨_, rfl⟩
  rw [hg5] at b5
  go_wp2_with fail
  refine (beginP _ (hT.fr F6)).mono ?_
  rintro _ w6 ⟨rfl, f6⟩
  have B6 := b5.fr f6
  have F7 := F6.trans f6
  clear F5 F6 f6 b5 hg5
  go_wp2_with fail
  refine (vInt_any _ _).mono ?_
  rintro _ w7 ⟨rfl, f7⟩
  have B7 := (B6.fr ((Fr.refl _).alloc _)).fr f7
  have F8 := (F7.alloc _).trans f7
  clear F7 f7 B6
  go_wp2_with fail
  refine (vText_any _ _).mono ?_
  rintro _ w8 ⟨rfl, f8⟩
  have B8 := B7.fr f8
  have F9 := F8.trans f8
  clear F8 f8 B7
  go_wp2_with fail
  refine (beginC _).mono ?_
  rintro _ w9 ⟨rfl, f9⟩
  have B9 := B8.fr f9
  have F10 := F9.trans f9
  clear F9 f9 B8
  go_wp2_with fail
  refine (vText_any _ _).mono ?_
  rintro _ wa ⟨rfl, fa⟩
  have Ba := B9.fr fa
  have F11 := F10.trans fa
  clear F10 fa B9
  go_wp2_with fail
  refine (vInt_any _ _).mono ?_
  rintro _ wb ⟨rfl, fb⟩
  have Bb := Ba.fr fb
  have F12 := F11.trans fb
  clear F11 fb Ba
  go_wp2_with fail
  refine (beginS _).mono ?_
  rintro _ wc ⟨v', rfl, fc, hr⟩
  have Bc := Bb.fr fc
  have F13 := F12.trans fc
  clear F12 fc Bb
  have HR : Hid _ := hr
  have HF : Hid _ := F13
  have k0 := Bc.c0
  have k1 := Bc.c1
  have k2 := Bc.c2
  have kf := Fr.refl wc
  clear hr F13 Bc
  go_wp2_with fail
  clear kf
  go_region_held3 (fun W' => W'.cell? ⟨g5, 0, none⟩ = some (.int .i64 1) ∧ W'.cell? ⟨g5, 1, none⟩ = some (.int .i64 (-12)) ∧ W'.cell? ⟨g5, 2, none⟩ = some (.string ⟨#[]⟩)) (first | exact ⟨k0, k1, k2⟩ | assumption | exact s3_after (by assumption) (by assumption) | exact s3_alloc (by assumption) _ | exact s3_after (by assumption) (s3_alloc (by assumption) _)) (first
    | (go_at_call 35; refine (vInt_any _ _).mono ?_; rintro e w1 ⟨rfl, hfx⟩)
    | (go_at_call 33; refine (vText_any _ _).mono ?_; rintro e w2 ⟨rfl, hfx⟩)
    | (go_at_call 24; refine (beginE v' wc _ HR.out (Fr.after (by assumption) (Fr.after (by assumption) (Fr.after (by assumption) (Fr.drew (Fr.refl _)))))).mono ?_; rintro e w3 ⟨rfl, hfx⟩)
    | (go_at_call 16; refine (beginK _).mono ?_; rintro e w4 ⟨rfl, hfx⟩))
  all_goals
    go_wp2_with fail
    go_ret
    exact ⟨rfl, Fr.trans HF.out (Fr.after (by assumption) (Fr.after (by assumption) (Fr.alloc (Fr.after (by assumption) (Fr.after (by assumption) (Fr.after (by assumption) (Fr.drew (Fr.refl _))))) _)))⟩
end Go.Proofs.YtjadmefiilkgmaaGreatDoor
