/-
  What compared of package eval answers, of whichever op that compares.
-/
import Derived.Test.YtbcfdhimngoplaaGreatDoorEvF
namespace Go.Proofs.YtbcfdhimngoplaaGreatDoor
open Go.ChangeShapes Go.WideShapes Go.ChangeAt Go.RowKit
set_option linter.unusedVariables false
set_option linter.unusedSimpArgs false
set_option maxRecDepth 100000
set_option maxHeartbeats 2000000
namespace EV
open VM
def two_ (e : Except Nat Int) : Int × Nat := match e with
 | .ok t => (t, 0)
 | .error c => (0, c)
def cmpP (op : Int) (l : List Vl) : Int × Nat := match l with
 | [] => (0, 0)
 | [x] => (if EX.isNul x = true then 2 else 0, 0)
 | x :: y :: r => if op = 10 then (LG.sm2 x y, chkAll [x, y]) else if op = 12 then (LG.lt2 x y, chkAll [x, y]) else if op = 14 then (LG.lt2 y x, chkAll [y, x]) else if op = 20 then two_ (lk x y) else if op = 22 then (LG.in2 x (y :: r), LG.inErr x (y :: r)) else (LG.bt2 x y (r.headD EX.nul), chkAll [x, y, r.headD EX.nul])
def pl (op : Int) : Int := if op = 11 then 10 else if op = 15 then 12 else if op = 13 then 14 else if op = 19 then 18 else if op = 21 then 20 else if op = 23 then 22 else if op = 25 then 24 else 0
def cmp (op : Int) (l : List Vl) : Int × Nat := if pl op ≠ 0 then (LG.not (cmpP (pl op) l).1, (cmpP (pl op) l).2) else cmpP op l
def Ar (op : Int) (l : List Vl) : Prop := (10 ≤ op ∧ op ≤ 15 ∧ l.length = 2) ∨ ((op = 18 ∨ op = 19) ∧ l.length = 1) ∨ ((op = 20 ∨ op = 21) ∧ l.length = 2) ∨ ((op = 22 ∨ op = 23) ∧ 2 ≤ l.length ∧ l.length ≤ 7) ∨ ((op = 24 ∨ op = 25) ∧ l.length = 3)
end EV
theorem ex_two (D : Except Nat Int) : exT D = .tuple #[.int .i64 (EV.two_ D).1, .int .i64 ((EV.two_ D).2 : Nat)] := by cases D <;> rfl
theorem cmpP_any (op : Int) (l : List VM.Vl) (v : Value) (w : World) (h : IsL cdV w v l) (hTn : Tn w) (hT : Tb w) (hs : ∀ x ∈ l, x.s.size ≤ 9223372036854775807) (ha : (op = 10 ∨ op = 12 ∨ op = 14 ∨ op = 18 ∨ op = 20 ∨ op = 22 ∨ op = 24) ∧ EV.Ar op l) :
  Calls Tryz.prog 99 #[.int .i64 op, v] w fun e w' => e = .returned (.tuple #[.int .i64 (EV.cmpP op l).1, .int .i64 ((EV.cmpP op l).2 : Nat)]) ∧ Fr w w' := by
 obtain ⟨hop, har⟩ := ha
 unfold EV.Ar at har
 rcases hop with rfl | rfl | rfl | rfl | rfl | rfl | rfl
 ·
  obtain ⟨x, y, rfl⟩ : ∃ x y, l = [x, y] := by
   match l, (show l.length = 2 by omega) with
   | [x, y], _ => exact ⟨x, y, rfl⟩
  exact cmp10 x y v w h hTn
 ·
  obtain ⟨x, y, rfl⟩ : ∃ x y, l = [x, y] := by
   match l, (show l.length = 2 by omega) with
   | [x, y], _ => exact ⟨x, y, rfl⟩
  exact cmp12 x y v w h hTn
 ·
  obtain ⟨x, y, rfl⟩ : ∃ x y, l = [x, y] := by
   match l, (show l.length = 2 by omega) with
   | [x, y], _ => exact ⟨x, y, rfl⟩
  exact cmp14 x y v w h hTn
 ·
  obtain ⟨x, rfl⟩ : ∃ x, l = [x] := by
   match l, (show l.length = 1 by omega) with
   | [x], _ => exact ⟨x, rfl⟩
  exact cmp18 x v w h hTn
 ·
  obtain ⟨x, y, rfl⟩ : ∃ x y, l = [x, y] := by
   match l, (show l.length = 2 by omega) with
   | [x, y], _ => exact ⟨x, y, rfl⟩
  have := cmp20 x y v w h hTn (hs x (by simp)) (hs y (by simp)) hT
  rw [ex_two] at this
  exact this
 ·
  obtain ⟨x, y, r, rfl⟩ : ∃ x y r, l = x :: y :: r := by
   match l, (show 2 ≤ l.length by omega) with
   | x :: y :: r, _ => exact ⟨x, y, r, rfl⟩
  exact cmp22 x (y :: r) v w h (by simp at har ⊢; omega) hTn
 ·
  obtain ⟨x, y, z, rfl⟩ : ∃ x y z, l = [x, y, z] := by
   match l, (show l.length = 3 by omega) with
   | [x, y, z], _ => exact ⟨x, y, z, rfl⟩
  exact cmp24 x y z v w h hTn
theorem compared_any (op : Int) (l : List VM.Vl) (v : Value) (w : World) (h : IsL cdV w v l) (hTn : Tn w) (hT : Tb w) (hs : ∀ x ∈ l, x.s.size ≤ 9223372036854775807) (har : EV.Ar op l) :
  Calls Tryz.prog 99 #[.int .i64 op, v] w fun e w' => e = .returned (.tuple #[.int .i64 (EV.cmp op l).1, .int .i64 ((EV.cmp op l).2 : Nat)]) ∧ Fr w w' := by
 have hv : ∃ a n c, v = .slice a n c := by
  obtain ⟨a, c, e, _⟩ := h
  exact ⟨a, _, c, e⟩
 have go : ∀ p, (p = 10 ∨ p = 12 ∨ p = 14 ∨ p = 18 ∨ p = 20 ∨ p = 22 ∨ p = 24) → EV.Ar p l → ∀ W, Fr w W → Calls Tryz.prog 99 #[.int .i64 p, v] W fun e w' => e = .returned (.tuple #[.int .i64 (EV.cmpP p l).1, .int .i64 ((EV.cmpP p l).2 : Nat)]) ∧ Fr W w' :=
  fun p hp ha W f => cmpP_any p l v W (h.fr f) (hTn.fr f) (hT.fr f) hs ⟨hp, ha⟩
 have hop : op = 10 ∨ op = 11 ∨ op = 12 ∨ op = 13 ∨ op = 14 ∨ op = 15 ∨ op = 18 ∨ op = 19 ∨ op = 20 ∨ op = 21 ∨ op = 22 ∨ op = 23 ∨ op = 24 ∨ op = 25 := by
  unfold EV.Ar at har
  omega
 rcases hop with rfl | rfl | rfl | rfl | rfl | rfl | rfl | rfl | rfl | rfl | rfl | rfl | rfl | rfl
 · exact go 10 (by simp) har w (Fr.refl w)
 · exact trn11 v _ _ w hTn (go 10 (by simp) (by unfold EV.Ar at har ⊢; omega)) hv
 · exact go 12 (by simp) har w (Fr.refl w)
 · exact trn13 v _ _ w hTn (go 14 (by simp) (by unfold EV.Ar at har ⊢; omega)) hv
 · exact go 14 (by simp) har w (Fr.refl w)
 · exact trn15 v _ _ w hTn (go 12 (by simp) (by unfold EV.Ar at har ⊢; omega)) hv
 · exact go 18 (by simp) har w (Fr.refl w)
 · exact trn19 v _ _ w hTn (go 18 (by simp) (by unfold EV.Ar at har ⊢; omega)) hv
 · exact go 20 (by simp) har w (Fr.refl w)
 · exact trn21 v _ _ w hTn (go 20 (by simp) (by unfold EV.Ar at har ⊢; omega)) hv
 · exact go 22 (by simp) har w (Fr.refl w)
 · exact trn23 v _ _ w hTn (go 22 (by simp) (by unfold EV.Ar at har ⊢; omega)) hv
 · exact go 24 (by simp) har w (Fr.refl w)
 · exact trn25 v _ _ w hTn (go 24 (by simp) (by unfold EV.Ar at har ⊢; omega)) hv
end Go.Proofs.YtbcfdhimngoplaaGreatDoor
