/-
  Variables of a call that hold disks: their boxes and what they stand for.
-/
import Derived.Test.YtcgafodaohmcmaaDkG
import Derived.Test.YtcgafodaohmcmaaDkS
namespace Go.Proofs.Ytcgafodaohmcmaa
open Go.ChangeShapes Go.WideShapes Go.ChangeAt Go.RowKit
set_option linter.unusedVariables false
set_option linter.unusedSimpArgs false
set_option maxRecDepth 100000

theorem own_slice' {B n sz : Nat} {T : TypeId} {v : Value} {xs : List Value} {w : World} (h : w.ownsRow B T sz v n xs) : ∃ a m c, v = .slice a m c := by
  obtain ⟨a, c, h⟩ := own_slice h
  exact ⟨a, n, c, h⟩
/-- a box of a disk -/
structure DV (W : World) (b : Nat) (p q : Value) (d : JN.D) : Prop where
  b : Blk W b #[p, q] 25
  d : IsD W p q d
theorem DV.fr {W W' : World} {b : Nat} {p q : Value} {d : JN.D} (h : DV W b p q d) (f : Fr W W') : DV W' b p q d := ⟨h.b.fr f, h.d.fr f⟩
theorem DV.new {W : World} {p q : Value} {d : JN.D} (h : IsD W p q d) : DV (W.alloc (.cells #[p, q] 25)) W.heap.size p q d := ⟨Blk.new W _ _, h.fr ((Fr.refl W).alloc _)⟩
/-- a literal's pages -/
theorem lit_pages (W : World) (l : List JN.B) : IsL cdP (W.alloc (.cells (sV l) 9)) (.slice (some ⟨W.heap.size, 0, none⟩) l.length l.length) l := by
  refine ⟨_, _, rfl, Nat.le_refl _, ?_⟩
  right
  refine ⟨_, _, rfl, by simp, ?_⟩
  intro j u hj
  rw [Nat.zero_add]
  exact (Blk.new W (sV l) 9).cell j (by simpa [sV] using hj)
/-- the disk of a literal -/
theorem lit_disk (W : World) (l : List JN.B) : IsD (W.alloc (.cells (sV l) 9)) (.slice (some ⟨W.heap.size, 0, none⟩) l.length l.length) (.slice none 0 0) ⟨l, []⟩ := ⟨lit_pages W l, isL_nil _ _⟩
end Go.Proofs.Ytcgafodaohmcmaa
