/-
  What the comparisons answer.
-/
import Derived.Test.YtjadmefiilkgmaaGreatDoorRowP
import Derived.Test.YtjadmefiilkgmaaGreatDoorCMath
import Derived.LoopN
namespace Go.Proofs.YtjadmefiilkgmaaGreatDoor
open Go.ChangeShapes Go.WideShapes Go.ChangeAt Go.RowKit
set_option linter.unusedVariables false
set_option linter.unusedSimpArgs false

set_option maxRecDepth 100000 in
set_option maxHeartbeats 1000000 in
theorem cmpInt_any (x y : Int) (w : World) :
    Calls Tryz.prog 56 #[.int .i64 x, .int .i64 y] w fun e w' => e = .returned (.int .i64 (CM.ci x y)) ∧ w' = w := by
  have h : x < y ∨ x = y ∨ y < x := by omega
  rcases h with h | rfl | h
  all_goals
    go_enter Tryz.func56, Tryz.ntmps56
    go_wp2
    go_ret
    refine ⟨ret_int ?_, rfl⟩
    unfold CM.ci
    repeat' split
    all_goals first | rfl | omega
set_option maxRecDepth 100000 in
set_option maxHeartbeats 1000000 in
theorem cmpI64_any (x y : Int) (w : World) :
    Calls Tryz.prog 57 #[.int .i64 x, .int .i64 y] w fun e w' => e = .returned (.int .i64 (CM.ci x y)) ∧ w' = w := by
  have h : x < y ∨ x = y ∨ y < x := by omega
  rcases h with h | rfl | h
  all_goals
    go_enter Tryz.func57, Tryz.ntmps57
    go_wp2
    go_ret
    refine ⟨ret_int ?_, rfl⟩
    unfold CM.ci
    repeat' split
    all_goals first | rfl | omega

set_option maxRecDepth 100000 in
set_option maxHeartbeats 1000000 in
theorem cmpOr_any (g : Nat) (x y z : Int) (w : World) (h0 : w.cell? ⟨g, 0, none⟩ = some (.int .i64 x)) (h1 : w.cell? ⟨g, 1, none⟩ = some (.int .i64 y)) (h2 : w.cell? ⟨g, 2, none⟩ = some (.int .i64 z)) :
    Calls Tryz.prog 55 #[.slice (some ⟨g, 0, none⟩) 3 3] w fun e w' => e = .returned (.int .i64 (CM.or3 x y z)) ∧ w' = w := by
  go_enter Tryz.func55, Tryz.ntmps55
  go_wp2
  refine wp_loop_rounds 4 ?_
  by_cases hx : x = 0
  · subst hx
    by_cases hy : y = 0
    · subst hy
      by_cases hz : z = 0
      · subst hz
        rw [rounds_succ]; go_wp2
        rw [rounds_succ]; go_wp2
        rw [rounds_succ]; go_wp2
        rw [rounds_succ]; go_wp2
        go_ret
        exact ⟨rfl, rfl⟩
      · have q : (z != 0) = true := by simp [hz]
        rw [rounds_succ]; go_wp2
        rw [rounds_succ]; go_wp2
        rw [rounds_succ]; go_wp2
        go_ret
        exact ⟨rfl, rfl⟩
    · have q : (y != 0) = true := by simp [hy]
      rw [rounds_succ]; go_wp2
      rw [rounds_succ]; go_wp2
      go_ret
      refine ⟨ret_int ?_, rfl⟩
      unfold CM.or3
      rw [if_neg (by simp), if_pos hy]
  · have q : (x != 0) = true := by simp [hx]
    rw [rounds_succ]; go_wp2
    go_ret
    refine ⟨ret_int ?_, rfl⟩
    unfold CM.or3
    rw [if_pos hx]

theorem k_alloc {W : World} {g j : Nat} {x : Value} (h : W.cell? ⟨g, j, none⟩ = some x) (o : Obj) : (W.alloc o).cell? ⟨g, j, none⟩ = some x := by
  have hb : g < W.heap.size := World.block_lt_of_cell? _ _ h
  exact (World.cell?_of_block (a := ⟨g, j, none⟩) (Below.heap_alloc W o g hb)).trans h
end Go.Proofs.YtjadmefiilkgmaaGreatDoor
