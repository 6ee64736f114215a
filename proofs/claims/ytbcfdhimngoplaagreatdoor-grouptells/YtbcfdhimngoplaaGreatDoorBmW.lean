/-
  What the form asks of the whole program, by the words of its head.
-/
import Derived.Test.YtbcfdhimngoplaaGreatDoorGqD
import Derived.Test.YtbcfdhimngoplaaGreatDoorCards
import Derived.SevenTiedAt
namespace Go.Proofs.YtbcfdhimngoplaaGreatDoor
open Go Go.ChangeShapes Go.WideShapes Go.ChangeAt Go.RowKit
set_option linter.unusedVariables false
set_option linter.unusedSimpArgs false
set_option maxRecDepth 100000
namespace HeadW
def sp : Char := Char.ofNat 32
theorem ws_sp (r : List Char) : wordsSigns (sp :: r) = [] :: wordsSigns r := rfl
theorem ws_word : ∀ (a r : List Char), (∀ c ∈ a, c ≠ sp) → wordsSigns (a ++ sp :: r) = a :: wordsSigns r
 | [], r, _ => ws_sp r
 | c :: a, r, h => by
  have hc : c ≠ sp := h c (List.mem_cons_self ..)
  have ih := ws_word a r (fun x hx => h x (List.mem_cons_of_mem _ hx))
  rw [List.cons_append]
  generalize a ++ sp :: r = l at ih
  generalize wordsSigns r = R at ih ⊢
  unfold wordsSigns
  split
  · rename_i e; cases e
  · rename_i e; injection e with e1 _; exact absurd e1 hc
  · rename_i e; first | (rw [ih]; done) | (injection e with e1 e2; subst e1; subst e2; rw [ih]; done) | (rw [ih]; rfl)
theorem noSp {a : List Char} (h : (a.all fun c => c != sp) = true) : ∀ c ∈ a, c ≠ sp := fun c hc => by
 have := List.all_eq_true.1 h c hc
 simpa using this
def c1 : List Char := ([104, 97, 114, 110, 101, 115, 115]).map Char.ofNat
def c2 : List Char := ([53, 57, 49, 99, 100, 52, 49, 97, 102, 101, 55, 98, 52, 98, 52, 101, 54, 55, 51, 52, 56, 101, 57, 53, 51, 98, 100, 97, 57, 100, 48, 97, 53, 57, 100, 99, 98, 98, 100, 50, 54, 102, 51, 50, 100, 100, 54, 53, 97, 51, 102, 99, 100, 56, 56, 48, 49, 54, 54, 54, 100, 54, 50, 52]).map Char.ofNat
def c3 : List Char := ([99, 117, 116]).map Char.ofNat
def tl : List Char := ([97, 116, 32, 115, 116, 97, 114, 108, 105, 110, 103, 47, 115, 116, 97, 114, 108, 105, 110, 103, 108, 97, 119, 46, 79, 114, 100, 101, 114, 84, 101, 108, 108, 115, 32, 115, 116, 97, 114, 108, 105, 110, 103, 47, 115, 116, 97, 114, 108, 105, 110, 103, 108, 97, 119, 46, 79, 114, 100, 101, 114, 77, 111, 118, 101, 115, 32, 115, 116, 97, 114, 108, 105, 110, 103, 47, 115, 116, 97, 114, 108, 105, 110, 103, 108, 97, 119, 46, 79, 114, 100, 101, 114, 75, 101, 121, 115, 32, 115, 116, 97, 114, 108, 105, 110, 103, 47, 115, 116, 97, 114, 108, 105, 110, 103, 108, 97, 119, 46, 79, 114, 100, 101, 114, 70, 105, 108, 116, 101, 114, 32, 115, 116, 97, 114, 108, 105, 110, 103, 47, 115, 116, 97, 114, 108, 105, 110, 103, 108, 97, 119, 46, 68, 105, 115, 116, 105, 110, 99, 116, 84, 101, 108, 108, 115, 32, 115, 116, 97, 114, 108, 105, 110, 103, 47, 115, 116, 97, 114, 108, 105, 110, 103, 108, 97, 119, 46, 74, 111, 105, 110, 84, 101, 108, 108, 115, 32, 115, 116, 97, 114, 108, 105, 110, 103, 47, 115, 116, 97, 114, 108, 105, 110, 103, 108, 97, 119, 46, 71, 114, 111, 117, 112, 84, 101, 108, 108, 115]).map Char.ofNat
theorem io : Tryz.prog.initOrder = String.ofList (c1 ++ sp :: (c2 ++ sp :: (c3 ++ sp :: tl))) := by kernel_rfl
theorem ws : wordsSigns Tryz.prog.initOrder.toList = c1 :: c2 :: c3 :: wordsSigns tl := by
 rw [io, String.toList_ofList, ws_word _ _ (noSp (by kernel_rfl)), ws_word _ _ (noSp (by kernel_rfl)), ws_word _ _ (noSp (by kernel_rfl))]
theorem bm : behindMainWord (wordsSigns Tryz.prog.initOrder.toList) = c3 :: wordsSigns tl := by
 rw [ws]
 generalize wordsSigns tl = r
 show (if ((c1 == ( "harness" ).toList || c1 == ( "ownmain" ).toList) && isSumSigns c2) = true then c3 :: r else c1 :: c2 :: c3 :: r) = c3 :: r
 rw [if_pos (by kernel_rfl)]
theorem strip (r : List (List Char)) : stripLifts liftWords (c3 :: r) = ([], c3 :: r) := by
 have key : ∀ (l : List String), (l.all fun o => !(c3 == o.toList)) = true → stripLifts l (c3 :: r) = ([], c3 :: r) := by
  intro l
  induction l with
  | nil => intro _; rfl
  | cons o os ih =>
   intro h
   rw [List.all_cons, Bool.and_eq_true] at h
   have h1 : (c3 == o.toList) = false := by simpa using h.1
   show (if (c3 == o.toList) = true then (o :: (stripLifts os r).1, (stripLifts os r).2) else stripLifts os (c3 :: r)) = _
   rw [if_neg (by rw [h1]; decide)]
   exact ih h.2
 exact key _ (by kernel_rfl)
theorem lays : Tryz.prog.laysLater = false := by kernel_rfl
theorem bears : Tryz.prog.bearsReflect = false := by kernel_rfl
theorem door : Tryz.prog.doorFits [] = true := by kernel_rfl
theorem mayEnter : Tryz.prog.mayEnter = true := by
 unfold Program.mayEnter
 rw [bm]
 simp only [strip, lays, bears, door]
 have e1 : (c3 == ( "gc" ).toList || c3 == ( "spec" ).toList) = false := by kernel_rfl
 have e2 : (c3 == ( "carried" ).toList) = false := by kernel_rfl
 have e3 : (some c3 == some ( "cut" ).toList) = true := by kernel_rfl
 simp only [List.head?_cons, e1, e2, e3]
 simp
theorem headLifts : Tryz.prog.headLifts = [] := by
 unfold Program.headLifts
 rw [bm]
 simp only [strip]
 split <;> rfl
theorem liftsFinal : Tryz.prog.liftsFinal = false := by
 unfold Program.liftsFinal
 simp only [bm, headLifts]
 have e2 : (some c3 == some ( "carried" ).toList) = false := by kernel_rfl
 simp only [List.head?_cons, e2]
 simp
theorem mainIs : Tryz.prog.mainIs = some (true, c2) := by
 unfold Program.mainIs
 rw [ws]
 have e1 : isSumSigns c2 = true := by kernel_rfl
 have e2 : (c1 == ( "harness" ).toList) = true := by kernel_rfl
 simp only [e1, e2]
 simp
theorem make : Tryz.prog.make = some .cut := by
 unfold Program.make
 rw [bm]
 have e1 : (c3 == ( "gc" ).toList || c3 == ( "spec" ).toList) = false := by kernel_rfl
 have e2 : (c3 == ( "cut" ).toList) = true := by kernel_rfl
 simp only [e1, e2]
 simp
end HeadW
end Go.Proofs.YtbcfdhimngoplaaGreatDoor
