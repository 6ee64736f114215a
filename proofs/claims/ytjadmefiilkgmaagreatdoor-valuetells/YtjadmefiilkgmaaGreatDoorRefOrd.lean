/-
  The document's OrderOf.
-/
import Derived.Test.YtjadmefiilkgmaaGreatDoorRefLess
import Derived.Test.YtjadmefiilkgmaaGreatDoorOpenW
namespace Go.Proofs.YtjadmefiilkgmaaGreatDoor
open Go.ChangeShapes Go.WideShapes Go.ChangeAt Go.RowKit
set_option linter.unusedVariables false
set_option linter.unusedSimpArgs false

theorem box2 (w : World) (a b : VM.Vl) : ∃ W, (w.alloc (.cells #[.int .i64 a.k, .int .i64 a.n, .string a.s] 23)).alloc (.cells #[.int .i64 b.k, .int .i64 b.n, .string b.s] 23) = W ∧ Fr w W ∧ Bx W w.heap.size a.k a.n a.s ∧ Bx W (w.heap.size + 1) b.k b.n b.s := by
  refine ⟨_, rfl, ((Fr.refl w).alloc _).alloc _, ?_, ?_⟩
  · exact (Bx.new w a.k a.n a.s).fr ((Fr.refl _).alloc _)
  · have := Bx.new (w.alloc (.cells #[.int .i64 a.k, .int .i64 a.n, .string a.s] 23)) b.k b.n b.s
    rwa [World.size_alloc] at this
theorem cb_vals : ∀ l m : List UInt8, Lib.compareBytes l m = -1 ∨ Lib.compareBytes l m = 0 ∨ Lib.compareBytes l m = 1
  | [], [] => by simp [Lib.compareBytes]
  | [], _ :: _ => by simp [Lib.compareBytes]
  | _ :: _, [] => by simp [Lib.compareBytes]
  | a :: l, b :: m => by
    rw [SM.cb_eq]
    split
    · exact Or.inl rfl
    · split
      · exact Or.inr (Or.inr rfl)
      · exact cb_vals l m
theorem ord_vals (a b : VM.Vl) : CM.ord a b = -1 ∨ CM.ord a b = 0 ∨ CM.ord a b = 1 := by
  have h := cb_vals a.s.data.toList b.s.data.toList
  unfold CM.ord CM.or3 CM.ci
  repeat' split
  all_goals omega

set_option maxRecDepth 100000 in
set_option maxHeartbeats 2000000 in
theorem orderOf_any (a b : VM.Vl) (w : World) (ha : a.s.size ≤ maxLen) (hb : b.s.size ≤ maxLen) :
    Calls Tryz.prog 14 #[a.val, b.val] w fun e w' => e = .returned (.int .i64 (CM.ord a b)) ∧ Fr w w' := by
  have c1 := fun W => valueLess_any a b W ha hb
  have c2 := fun W => valueLess_any b a W hb ha
  rw [SM.ord_anti a b] at c2
  have hv := ord_vals a b
  obtain ⟨W0, hW0, f0, A0, B0⟩ := box2 w a b
  obtain ⟨ak, an, sa⟩ := a
  obtain ⟨bk, bn, sb⟩ := b
  unfold VM.Vl.val at *
  simp only at *
  generalize CM.ord ⟨ak, an, sa⟩ ⟨bk, bn, sb⟩ = o at *
  have HW : Hid _ := hW0
  clear hW0 ha hb
  rcases hv with rfl | rfl | rfl
  · rw [show decide ((-1 : Int) < 0) = true from rfl] at c1
    go_enter Tryz.func14, Tryz.ntmps14
    go_wp2_with fail
    rw [HW.out]
    refine (c1 _).mono ?_
    rintro _ w1 ⟨rfl, f1⟩
    have F1 : Hid (Fr w w1) := f0.trans f1
    clear f1 f0 c1 c2 A0 B0 HW
    go_wp2_with fail
    go_ret
    exact ⟨rfl, F1.out⟩
  · rw [show decide ((0 : Int) < 0) = false from rfl] at c1
    rw [show decide (-(0 : Int) < 0) = false from rfl] at c2
    go_enter Tryz.func14, Tryz.ntmps14
    go_wp2_with fail
    rw [HW.out]
    refine (c1 _).mono ?_
    rintro _ w1 ⟨rfl, f1⟩
    have F1 := f0.trans f1
    have A1 := A0.fr f1
    have B1 := B0.fr f1
    have a0 := A1.c0
    have a1 := A1.c1
    have a2 := A1.c2
    have b0 := B1.c0
    have b1 := B1.c1
    have b2 := B1.c2
    clear f1 f0 c1 A0 B0 HW
    go_wp2_with fail
    refine (c2 _).mono ?_
    rintro _ w2 ⟨rfl, f2⟩
    have F2 : Hid (Fr w w2) := F1.trans f2
    clear f2 F1 c2 A1 B1 a0 a1 a2 b0 b1 b2
    go_wp2_with fail
    go_ret
    exact ⟨rfl, F2.out⟩
  · rw [show decide ((1 : Int) < 0) = false from rfl] at c1
    rw [show decide (-(1 : Int) < 0) = true from rfl] at c2
    go_enter Tryz.func14, Tryz.ntmps14
    go_wp2_with fail
    rw [HW.out]
    refine (c1 _).mono ?_
    rintro _ w1 ⟨rfl, f1⟩
    have F1 := f0.trans f1
    have A1 := A0.fr f1
    have B1 := B0.fr f1
    have a0 := A1.c0
    have a1 := A1.c1
    have a2 := A1.c2
    have b0 := B1.c0
    have b1 := B1.c1
    have b2 := B1.c2
    clear f1 f0 c1 A0 B0 HW
    go_wp2_with fail
    refine (c2 _).mono ?_
    rintro _ w2 ⟨rfl, f2⟩
    have F2 : Hid (Fr w w2) := F1.trans f2
    clear f2 F1 c2 A1 B1 a0 a1 a2 b0 b1 b2
    go_wp2_with fail
    go_ret
    exact ⟨rfl, F2.out⟩
end Go.Proofs.YtjadmefiilkgmaaGreatDoor
