/-
  What belongs together: LgOrd, RefVal, RefLg, RefIn, RefBt, RefWh, RefTimes.
-/
import Derived.Test.YtaabandfjdnkjaaGreatDoorGpB
import Derived.Test.YtaabandfjdnkjaaGreatDoorRfV
import Derived.Test.YtaabandfjdnkjaaGreatDoorGpD
import Derived.Test.YtaabandfjdnkjaaGreatDoorGpC
namespace Go.Proofs.YtaabandfjdnkjaaGreatDoor
namespace LG
open VM
theorem cb_anti : ∀ l m : List UInt8, Lib.compareBytes m l = - Lib.compareBytes l m
 | [], [] => by simp [Lib.compareBytes]
 | [], _ :: _ => by simp [Lib.compareBytes]
 | _ :: _, [] => by simp [Lib.compareBytes]
 | a :: l, b :: m => by
  have ih := cb_anti l m
  unfold Lib.compareBytes
  by_cases h1 : a < b
  ·
   have h2 : ¬ b < a := by rw [UInt8.lt_iff_toNat_lt] at *; omega
   rw [if_neg h2, if_pos h1, if_pos h1]; rfl
  ·
   by_cases h2 : b < a
   · rw [if_pos h2, if_neg h1, if_pos h2]
   ·
    rw [if_neg h2, if_neg h1, if_neg h1, if_neg h2]
    exact ih
theorem ci_anti (x y : Int) : CM.ci y x = - CM.ci x y := by
 unfold CM.ci
 repeat' split
 all_goals omega
theorem ord_anti (a b : Vl) : CM.ord b a = - CM.ord a b := by
 unfold CM.ord
 rw [ci_anti a.k b.k, ci_anti a.n b.n, cb_anti a.s.data.toList b.s.data.toList]
 unfold CM.or3
 repeat' split
 all_goals omega
end LG
end Go.Proofs.YtaabandfjdnkjaaGreatDoor
namespace Go.Proofs.YtaabandfjdnkjaaGreatDoor
open Go.ChangeShapes Go.WideShapes Go.ChangeAt Go.RowKit
set_option linter.unusedVariables false
set_option linter.unusedSimpArgs false
end Go.Proofs.YtaabandfjdnkjaaGreatDoor
namespace Go.Proofs.YtaabandfjdnkjaaGreatDoor
open Go.ChangeShapes Go.WideShapes Go.ChangeAt Go.RowKit
set_option linter.unusedVariables false
set_option linter.unusedSimpArgs false
end Go.Proofs.YtaabandfjdnkjaaGreatDoor
namespace Go.Proofs.YtaabandfjdnkjaaGreatDoor
open Go.ChangeShapes Go.WideShapes Go.ChangeAt Go.RowKit
set_option linter.unusedVariables false
set_option linter.unusedSimpArgs false
theorem map_take (f : VM.Vl → Int) (l : List VM.Vl) (n : Nat) (h : n < l.length) : (l.map f).take (n + 1) = (l.map f).take n ++ [f l[n]] := by
 rw [List.take_succ_eq_append_getElem (by simpa using h)]
 simp
end Go.Proofs.YtaabandfjdnkjaaGreatDoor
namespace Go.Proofs.YtaabandfjdnkjaaGreatDoor
open Go.ChangeShapes Go.WideShapes Go.ChangeAt Go.RowKit
set_option linter.unusedVariables false
set_option linter.unusedSimpArgs false
def Box3 (W : World) (g : Nat) (ak an bk bn ck cn : Int) (sa sb sc : ByteArray) : Prop :=
 W.cell? ⟨g, 0, none⟩ = some (.int .i64 ak) ∧ W.cell? ⟨g, 1, none⟩ = some (.int .i64 an) ∧ W.cell? ⟨g, 2, none⟩ = some (.string sa) ∧ W.cell? ⟨g + 1, 0, none⟩ = some (.int .i64 bk) ∧ W.cell? ⟨g + 1, 1, none⟩ = some (.int .i64 bn) ∧ W.cell? ⟨g + 1, 2, none⟩ = some (.string sb) ∧ W.cell? ⟨g + 1 + 1, 0, none⟩ = some (.int .i64 ck) ∧ W.cell? ⟨g + 1 + 1, 1, none⟩ = some (.int .i64 cn) ∧ W.cell? ⟨g + 1 + 1, 2, none⟩ = some (.string sc)
theorem Box3.fr {W W' : World} {g : Nat} {ak an bk bn ck cn : Int} {sa sb sc : ByteArray} (h : Box3 W g ak an bk bn ck cn sa sb sc) (f : Fr W W') : Box3 W' g ak an bk bn ck cn sa sb sc :=
 ⟨cell_fr f h.1, cell_fr f h.2.1, cell_fr f h.2.2.1, cell_fr f h.2.2.2.1, cell_fr f h.2.2.2.2.1, cell_fr f h.2.2.2.2.2.1, cell_fr f h.2.2.2.2.2.2.1, cell_fr f h.2.2.2.2.2.2.2.1, cell_fr f h.2.2.2.2.2.2.2.2⟩
theorem Box3.al {W : World} {g : Nat} {ak an bk bn ck cn : Int} {sa sb sc : ByteArray} (h : Box3 W g ak an bk bn ck cn sa sb sc) (o : Obj) : Box3 (W.alloc o) g ak an bk bn ck cn sa sb sc :=
 h.fr ((Fr.refl W).alloc o)
end Go.Proofs.YtaabandfjdnkjaaGreatDoor
namespace Go.Proofs.YtaabandfjdnkjaaGreatDoor
open Go.ChangeShapes Go.WideShapes Go.ChangeAt Go.RowKit
set_option linter.unusedVariables false
set_option maxRecDepth 100000
end Go.Proofs.YtaabandfjdnkjaaGreatDoor
namespace Go.Proofs.YtaabandfjdnkjaaGreatDoor
open Go.ChangeShapes Go.WideShapes Go.ChangeAt Go.RowKit
set_option linter.unusedVariables false
set_option maxRecDepth 100000
end Go.Proofs.YtaabandfjdnkjaaGreatDoor
