/-
  Open.
-/
import Derived.Test.YtfjdialbjbomdaaDoorPgF
namespace Go.Proofs.YtfjdialbjbomdaaDoor
open Go.ChangeShapes Go.WideShapes Go.ChangeAt Go.RowKit
set_option linter.unusedVariables false
set_option linter.unusedSimpArgs false

theorem lay_all (l : List UInt8) (h : l.length = 256) : lay nought256 0 l = l := by
  unfold lay
  rw [List.take_zero, List.nil_append, List.drop_of_length_le (by unfold nought256; rw [List.length_replicate]; omega), List.append_nil]
theorem Fv.fr {w w' : World} {g : Nat} {m : List UInt8} (h : Fv w g m) (f : Fr w w') : Fv w' g m := ⟨h.len, (f.block _ (Array.getElem?_eq_some_iff.1 h.at_).1).trans h.at_⟩
theorem conv_fv {w : World} {g : Nat} {m : List UInt8} (h : Fv w g m) :
    (convert 44 9 (.slice (some ⟨g, 0, none⟩) 4 4)).run Tryd.prog w = .ok (.string ⟨m.toArray⟩) w := by
  have := run_convert_bytes_back (P := Tryd.prog) w 44 9 5 ⟨g, 0, none⟩ 4 m Tryd.underlying44 Tryd.underlying5 Tryd.underlying9 (by
    intro j hj
    have e : (⟨g, 0, none⟩ : Addr).add j = ⟨g, j, none⟩ := by unfold Addr.add; split <;> simp_all
    rw [e, Lib.cell_of_heap h.at_]
    exact byteV_get m j hj)
  rw [h.len] at this
  exact this
/-- what Open answers -/
def opV (r : PG.Pg × Nat) : Value := .tuple #[pgV r.1, .int .i64 (r.2 : Int)]

set_option maxRecDepth 100000 in
set_option maxHeartbeats 2000000 in
theorem open_place (no : Int) (s : ByteArray) (w : World) (h : no < 0 ∨ 31 < no) : Calls Tryd.prog 10 #[.int .i64 no, .string s] w fun e w' => e = .returned (.tuple #[.agg #[.int .i64 0, .int .i64 0, .int .i64 0, .string ⟨#[]⟩], .int .i64 3]) ∧ Fr w w' := by
  have hc := fun W => isPlace_any no W
  have e : decide (0 ≤ no ∧ no ≤ 31) = false := by simp; omega
  rw [e] at hc
  obtain ⟨W0, hW0⟩ : ∃ W0, w.alloc (.cells #[.int .i64 0, .int .i64 0, .int .i64 0, .string ⟨#[]⟩] 23) = W0 := ⟨_, rfl⟩
  have f0 : Fr w W0 := by rw [← hW0]; exact (Fr.refl w).alloc _
  have b0 : Bp W0 w.heap.size 0 0 0 ⟨#[]⟩ := by rw [← hW0]; exact Bp.new _ _ _ _ _
  obtain ⟨g, hg⟩ : ∃ g, w.heap.size = g := ⟨_, rfl⟩
  rw [hg] at b0
  have q0 := b0.c0
  have q1 := b0.c1
  have q2 := b0.c2
  have q3 := b0.c3
  have z0 := b0.z 0
  have z1 := b0.z 1
  have z2 := b0.z 2
  have z3 := b0.z 3
  clear e h
  go_enter Tryd.func10, Tryd.ntmps10
  go_wp2_with fail
  refine (hc _).mono ?_
  rintro _ w1 ⟨rfl, rfl⟩
  clear hc hW0
  go_wp2_with fail
  refine bodyPost_ret (v := .tuple #[.agg #[.int .i64 0, .int .i64 0, .int .i64 0, .string ⟨#[]⟩], .int .i64 3]) (by simp [results, Tryd.results10, go_sem, q0, q1, q2, q3]) rfl ?_
  exact ⟨rfl, Below.setCell (Below.setCell (Below.setCell (Below.setCell f0 (by rw [hg]; exact Nat.le_refl _) _) (by rw [hg]; exact Nat.le_refl _) _) (by rw [hg]; exact Nat.le_refl _) _) (by rw [hg]; exact Nat.le_refl _) _⟩

set_option maxRecDepth 100000 in
set_option maxHeartbeats 2000000 in
theorem open_size (no : Int) (s : ByteArray) (w : World) (h0 : 0 ≤ no) (h1 : no ≤ 31) (hs : s.size ≠ 256) : Calls Tryd.prog 10 #[.int .i64 no, .string s] w fun e w' => e = .returned (.tuple #[.agg #[.int .i64 0, .int .i64 0, .int .i64 0, .string ⟨#[]⟩], .int .i64 1]) ∧ Fr w w' := by
  have hc := fun W => isPlace_any no W
  have e : decide (0 ≤ no ∧ no ≤ 31) = true := by simp; omega
  rw [e] at hc
  obtain ⟨W0, hW0⟩ : ∃ W0, w.alloc (.cells #[.int .i64 0, .int .i64 0, .int .i64 0, .string ⟨#[]⟩] 23) = W0 := ⟨_, rfl⟩
  have f0 : Fr w W0 := by rw [← hW0]; exact (Fr.refl w).alloc _
  have b0 : Bp W0 w.heap.size 0 0 0 ⟨#[]⟩ := by rw [← hW0]; exact Bp.new _ _ _ _ _
  obtain ⟨g, hg⟩ : ∃ g, w.heap.size = g := ⟨_, rfl⟩
  rw [hg] at b0
  have q0 := b0.c0
  have q1 := b0.c1
  have q2 := b0.c2
  have q3 := b0.c3
  have z0 := b0.z 0
  have z1 := b0.z 1
  have z2 := b0.z 2
  have z3 := b0.z 3
  have s1 : ((s.size : Int) == 256) = false := by simp; omega
  have s2 : ((s.size : Int) != 256) = true := by simp; omega
  have s3 : ¬ ((s.size : Int) = 256) := by omega
  clear e h0 h1 hs
  go_enter Tryd.func10, Tryd.ntmps10
  go_wp2_with fail
  refine (hc _).mono ?_
  rintro _ w1 ⟨rfl, rfl⟩
  clear hc hW0
  go_wp2_with fail
  refine bodyPost_ret (v := .tuple #[.agg #[.int .i64 0, .int .i64 0, .int .i64 0, .string ⟨#[]⟩], .int .i64 1]) (by simp [results, Tryd.results10, go_sem, q0, q1, q2, q3]) rfl ?_
  exact ⟨rfl, Below.setCell (Below.setCell (Below.setCell (Below.setCell f0 (by rw [hg]; exact Nat.le_refl _) _) (by rw [hg]; exact Nat.le_refl _) _) (by rw [hg]; exact Nat.le_refl _) _) (by rw [hg]; exact Nat.le_refl _) _⟩
end Go.Proofs.YtfjdialbjbomdaaDoor
