/-
  Blocks of a call's own: what they hold, behind calls and stores.
-/
import Derived.Test.YtcgafodaohmcmaaDkB
namespace Go.Proofs.Ytcgafodaohmcmaa
open Go.ChangeShapes Go.WideShapes Go.ChangeAt Go.RowKit
set_option linter.unusedVariables false
set_option linter.unusedSimpArgs false
set_option maxRecDepth 100000

theorem new_heap (w : World) (o : Obj) : (w.alloc o).heap[w.heap.size]? = some o := by
  show (w.heap.push o)[w.heap.size]? = _
  rw [Array.getElem?_push_size]
/-- a block holds just these cells -/
def Blk (w : World) (b : Nat) (arr : Array Value) (T : TypeId) : Prop := w.heap[b]? = some (.cells arr T (0, 0))
theorem Blk.lt {w : World} {b : Nat} {arr : Array Value} {T : TypeId} (h : Blk w b arr T) : b < w.heap.size := (Array.getElem?_eq_some_iff.1 h).1
theorem Blk.fr {w w' : World} {b : Nat} {arr : Array Value} {T : TypeId} (h : Blk w b arr T) (f : Fr w w') : Blk w' b arr T := (f.block b h.lt).trans h
theorem Blk.old {w : World} {b : Nat} {arr : Array Value} {T : TypeId} (h : Blk w b arr T) (o : Obj) : Blk (w.alloc o) b arr T := h.fr ((Fr.refl w).alloc o)
theorem Blk.new (w : World) (arr : Array Value) (T : TypeId) : Blk (w.alloc (.cells arr T)) w.heap.size arr T := new_heap w _
theorem Blk.cell {w : World} {b : Nat} {arr : Array Value} {T : TypeId} (h : Blk w b arr T) (i : Nat) {u : Value} (hu : arr[i]? = some u) : w.cell? ⟨b, i, none⟩ = some u := by
  rw [Lib.cell_of_heap h]; exact hu
theorem Blk.frozen {w : World} {b : Nat} {arr : Array Value} {T : TypeId} (h : Blk w b arr T) (i : Nat) : w.frozen? ⟨b, i, none⟩ = false := Lib.frozen_of_heap h i
theorem Blk.set {w : World} {b : Nat} {arr : Array Value} {T : TypeId} (h : Blk w b arr T) (i : Nat) (u : Value) : Blk (w.setCell ⟨b, i, none⟩ u) b (arr.setIfInBounds i u) T := by
  unfold Blk at *
  simp only [World.setCell, Array.getElem?_modify, if_pos, h]
  rfl
theorem Blk.other {w : World} {b b' : Nat} {arr : Array Value} {T : TypeId} (h : Blk w b arr T) (hne : b' ≠ b) (i : Nat) (u : Value) : Blk (w.setCell ⟨b', i, none⟩ u) b arr T := by
  unfold Blk at *
  simp only [World.setCell, Array.getElem?_modify]
  rw [if_neg hne]; exact h
theorem Blk.grown {w w' : World} {b : Nat} {arr : Array Value} {T : TypeId} {r : Option Nat} (h : Blk w b arr T) (hg : w.grownBy w' r) (hr : r ≠ some b) : Blk w' b arr T :=
  (hg.block b h.lt (fun e => hr e.symm)).trans h
theorem Fr.setCell {a b : World} (h : Fr a b) (p : Nat) (i : Nat) (u : Value) (hp : a.heap.size ≤ p) : Fr a (b.setCell ⟨p, i, none⟩ u) := Below.setCell h hp _
theorem size_setCell (w : World) (p : Addr) (u : Value) : (w.setCell p u).heap.size = w.heap.size := by simp [World.setCell]
/-- two cells of a block -/
structure B2 (w : World) (b : Nat) (x y : Value) : Prop where
  c0 : w.cell? ⟨b, 0, none⟩ = some x
  c1 : w.cell? ⟨b, 1, none⟩ = some y
  z0 : w.frozen? ⟨b, 0, none⟩ = false
  z1 : w.frozen? ⟨b, 1, none⟩ = false
theorem Blk.two {w : World} {b : Nat} {x y : Value} {T : TypeId} (h : Blk w b #[x, y] T) : B2 w b x y := ⟨h.cell 0 rfl, h.cell 1 rfl, h.frozen 0, h.frozen 1⟩
theorem Blk.set2 {w : World} {b : Nat} {x y : Value} {T : TypeId} (h : Blk w b #[x, y] T) (x' y' : Value) : Blk ((w.setCell ⟨b, 0, none⟩ x').setCell ⟨b, 1, none⟩ y') b #[x', y'] T := by
  have := (h.set 0 x').set 1 y'
  simpa using this
theorem Fr.set2 {a w : World} (h : Fr a w) (b : Nat) (hb : a.heap.size ≤ b) (x y : Value) : Fr a ((w.setCell ⟨b, 0, none⟩ x).setCell ⟨b, 1, none⟩ y) := (h.setCell b 0 x hb).setCell b 1 y hb
/-- a block of two cells, both written -/
def put2 (w : World) (b : Nat) (x y : Value) : World := (w.setCell ⟨b, 0, none⟩ x).setCell ⟨b, 1, none⟩ y
theorem Blk.put2 {w : World} {b : Nat} {x y : Value} {T : TypeId} (h : Blk w b #[x, y] T) (x' y' : Value) : B2 (put2 w b x' y') b x' y' := (h.set2 x' y').two
end Go.Proofs.Ytcgafodaohmcmaa
