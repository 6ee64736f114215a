/-
  What must be in any case (pageBegun).
-/
import Derived.Test.YtfjdialbjbomdaaDoorPgI
namespace Go.Proofs.YtfjdialbjbomdaaDoor
open Go.ChangeShapes Go.WideShapes Go.ChangeAt Go.RowKit
set_option linter.unusedVariables false
set_option linter.unusedSimpArgs false
set_option maxRecDepth 100000

def begP : PG.Pg := ⟨3, 4, 258, [97, 98, 99]⟩
theorem begChk : PG.chk begP = 0 := by decide
theorem begHead : (PG.sld begP).take 11 = [0, 3, 4, 1, 2, 0, 3, 97, 98, 99, 0] := by
  rw [PG.seal_head]
  rfl
theorem begun1 (w : World) : Calls Tryd.prog 9 #[.agg #[.int .i64 3, .int .i64 4, .int .i64 258, .string ⟨#[97, 98, 99]⟩]] w fun e w' => e = .returned (.tuple #[.string ⟨(PG.sld begP).toArray⟩, .int .i64 0]) ∧ Fr w w' := seal_ok begP w begChk
theorem begun2 (w : World) : Calls Tryd.prog 10 #[.int .i64 3, .string ⟨(PG.sld begP).toArray⟩] w fun e w' => e = .returned (.tuple #[.agg #[.int .i64 3, .int .i64 4, .int .i64 258, .string ⟨#[97, 98, 99]⟩], .int .i64 0]) ∧ Fr w w' := by
  have h := open_any 3 ⟨(PG.sld begP).toArray⟩ w
  rw [dl_mk, show (3 : Int) = begP.no from rfl, PG.open_seal begChk] at h
  exact h
theorem begun3 (w : World) : Calls Tryd.prog 10 #[.int .i64 4, .string ⟨(PG.sld begP).toArray⟩] w fun e w' => e = .returned (.tuple #[.agg #[.int .i64 0, .int .i64 0, .int .i64 0, .string ⟨#[]⟩], .int .i64 11]) ∧ Fr w w' := by
  have h := open_any 4 ⟨(PG.sld begP).toArray⟩ w
  rw [dl_mk, PG.moved begChk (by decide) (by decide) (by decide)] at h
  exact h
theorem blank11 {no : Int} (h0 : 0 ≤ no) (h1 : no ≤ 31) : PG.opn no (PG.noughts 256) = (PG.zero, 11) := by
  unfold PG.opn
  rw [if_neg (by omega), if_neg (by rw [noughts_len]; decide), if_pos]
  refine Or.inl ?_
  rw [show (PG.noughts 256).drop 252 = PG.noughts 4 from by unfold PG.noughts; rw [List.drop_replicate], show (PG.noughts 256).take 252 = PG.noughts 252 from by unfold PG.noughts; rw [List.take_replicate]; rfl]
  exact fun c => PG.blank_sum c.symm
theorem begun4 (w : World) : Calls Tryd.prog 10 #[.int .i64 0, .string ⟨(PG.noughts 256).toArray⟩] w fun e w' => e = .returned (.tuple #[.agg #[.int .i64 0, .int .i64 0, .int .i64 0, .string ⟨#[]⟩], .int .i64 11]) ∧ Fr w w' := by
  have h := open_any 0 ⟨(PG.noughts 256).toArray⟩ w
  rw [dl_mk, blank11 (by decide) (by decide)] at h
  exact h
theorem begun5 (w : World) : Calls Tryd.prog 17 #[.int .i64 256] w fun e w' => e = .returned (.string ⟨(PG.noughts 256).toArray⟩) ∧ Fr w w' := noughts_any 256 w (by decide)

set_option maxHeartbeats 4000000 in
theorem begun_core (S N : ByteArray) (w : World) (hS : S.size = 256) (hX : S.extract 0 11 = ⟨#[0, 3, 4, 1, 2, 0, 3, 97, 98, 99, 0]⟩)
    (c1 : ∀ W, Calls Tryd.prog 9 #[.agg #[.int .i64 3, .int .i64 4, .int .i64 258, .string ⟨#[97, 98, 99]⟩]] W fun e w' => e = .returned (.tuple #[.string S, .int .i64 0]) ∧ Fr W w')
    (c2 : ∀ W, Calls Tryd.prog 10 #[.int .i64 3, .string S] W fun e w' => e = .returned (.tuple #[.agg #[.int .i64 3, .int .i64 4, .int .i64 258, .string ⟨#[97, 98, 99]⟩], .int .i64 0]) ∧ Fr W w')
    (c3 : ∀ W, Calls Tryd.prog 10 #[.int .i64 4, .string S] W fun e w' => e = .returned (.tuple #[.agg #[.int .i64 0, .int .i64 0, .int .i64 0, .string ⟨#[]⟩], .int .i64 11]) ∧ Fr W w')
    (c5 : ∀ W, Calls Tryd.prog 17 #[.int .i64 256] W fun e w' => e = .returned (.string N) ∧ Fr W w')
    (c4 : ∀ W, Calls Tryd.prog 10 #[.int .i64 0, .string N] W fun e w' => e = .returned (.tuple #[.agg #[.int .i64 0, .int .i64 0, .int .i64 0, .string ⟨#[]⟩], .int .i64 11]) ∧ Fr W w') :
    Calls Tryd.prog 14 #[] w fun e w' => e = .returned (.bool true) ∧ Fr w w' := by
  obtain ⟨W0, hW0⟩ : ∃ W0, w.alloc (.cells #[.int .i64 3, .int .i64 4, .int .i64 258, .string ⟨#[97, 98, 99]⟩] 23) = W0 := ⟨_, rfl⟩
  have f0 : Fr w W0 := by rw [← hW0]; exact (Fr.refl w).alloc _
  have b0 : Bp W0 w.heap.size 3 4 258 ⟨#[97, 98, 99]⟩ := by rw [← hW0]; exact Bp.new _ _ _ _ _
  obtain ⟨g, hg⟩ : ∃ g, w.heap.size = g := ⟨_, rfl⟩
  rw [hg] at b0
  have q0 := b0.c0
  have q1 := b0.c1
  have q2 := b0.c2
  have q3 := b0.c3
  go_enter Tryd.func14, Tryd.ntmps14
  go_wp2_with fail
  refine (c1 _).mono ?_
  rintro _ w1 ⟨rfl, f1⟩
  have F1 : Fr w w1 := f0.trans f1
  have b1 := b0.fr f1
  clear f0 f1 b0 hW0 c1 q0 q1 q2 q3
  go_wp2_with fail
  refine (c2 _).mono ?_
  rintro _ w2 ⟨rfl, f2⟩
  have F2 : Fr w w2 := F1.trans f2
  have b2 := b1.fr f2
  clear f2 b1 F1 c2
  obtain ⟨W3, hW3⟩ : ∃ W3, w2.alloc (.cells #[.int .i64 3, .int .i64 4, .int .i64 258, .string ⟨#[97, 98, 99]⟩] 23) = W3 := ⟨_, rfl⟩
  have f3 : Fr w2 W3 := by rw [← hW3]; exact (Fr.refl w2).alloc _
  have k3 : Bp W3 w2.heap.size 3 4 258 ⟨#[97, 98, 99]⟩ := by rw [← hW3]; exact Bp.new _ _ _ _ _
  obtain ⟨h, hh⟩ : ∃ h, w2.heap.size = h := ⟨_, rfl⟩
  rw [hh] at k3
  have b3 := b2.fr f3
  have F3 : Fr w W3 := F2.trans f3
  clear b2 F2 f3
  go_wp2_with fail
  refine (c3 _).mono ?_
  rintro _ w4 ⟨rfl, f4⟩
  have F4 : Fr w w4 := F3.trans f4
  have b4 := b3.fr f4
  have k4 := k3.fr f4
  clear f4 b3 k3 F3 c3 hW3
  go_wp2_with fail
  refine (c5 _).mono ?_
  rintro _ w5 ⟨rfl, f5⟩
  have F5 : Fr w w5 := (F4.alloc _).trans f5
  have b5 := (b4.fr ((Fr.refl _).alloc _)).fr f5
  have k5 := (k4.fr ((Fr.refl _).alloc _)).fr f5
  clear f5 b4 k4 F4 c5
  go_wp2_with fail
  refine (c4 _).mono ?_
  rintro _ w6 ⟨rfl, f6⟩
  have F6 : Hid (Fr w w6) := F5.trans f6
  have b6 := (b5.fr f6).fr ((Fr.refl _).alloc (.cells #[.int .i64 0, .int .i64 0, .int .i64 0, .string ⟨#[]⟩] 23))
  have k6 := (k5.fr f6).fr ((Fr.refl _).alloc (.cells #[.int .i64 0, .int .i64 0, .int .i64 0, .string ⟨#[]⟩] 23))
  clear f6 b5 k5 F5 c4
  have q0 := b6.c0
  have q1 := b6.c1
  have q2 := b6.c2
  have q3 := b6.c3
  have r0 := k6.c0
  have r1 := k6.c1
  have r2 := k6.c2
  have r3 := k6.c3
  clear b6 k6
  go_wp2_with fail
  go_ret
  exact ⟨rfl, F6.out.alloc _⟩
theorem begun_any (w : World) : Calls Tryd.prog 14 #[] w fun e w' => e = .returned (.bool true) ∧ Fr w w' := by
  refine begun_core ⟨(PG.sld begP).toArray⟩ ⟨(PG.noughts 256).toArray⟩ w (by rw [mk_size]; exact PG.seal_len begChk) ?_ (fun W => begun1 W) (fun W => begun2 W) (fun W => begun3 W) (fun W => begun5 W) (fun W => begun4 W)
  rw [← dl_eq (ByteArray.extract _ 0 11), ext_list, dl_mk, List.drop_zero, begHead]
end Go.Proofs.YtfjdialbjbomdaaDoor
