/-
  The examples that the statements on values hold first are met.
-/
import Derived.Test.YtjadmefiilkgmaaGreatDoorOf
import Derived.Test.YtjadmefiilkgmaaGreatDoorSrt2
import Derived.Test.YtjadmefiilkgmaaGreatDoorSame
namespace Go.Proofs.YtjadmefiilkgmaaGreatDoor
open Go.ChangeShapes Go.WideShapes Go.ChangeAt Go.RowKit
set_option linter.unusedVariables false
set_option linter.unusedSimpArgs false

set_option maxRecDepth 100000 in
set_option maxHeartbeats 1000000 in
theorem vInt_any (n : Int) (w : World) : Calls Tryz.prog 35 #[.int .i64 n] w fun e w' => e = .returned (.agg #[.int .i64 1, .int .i64 n, .string ⟨#[]⟩]) ∧ Fr w w' := by
  go_enter Tryz.func35, Tryz.ntmps35
  go_wp2
  refine bodyPost_ret (v := .agg #[.int .i64 1, .int .i64 n, .string ⟨#[]⟩]) (by simp [results, Tryz.results35, go_sem]) rfl ?_
  exact ⟨rfl, (Fr.refl _).alloc _⟩
set_option maxRecDepth 100000 in
set_option maxHeartbeats 1000000 in
theorem vText_any (s : ByteArray) (w : World) : Calls Tryz.prog 33 #[.string s] w fun e w' => e = .returned (.agg #[.int .i64 2, .int .i64 0, .string s]) ∧ Fr w w' := by
  go_enter Tryz.func33, Tryz.ntmps33
  go_wp2
  refine bodyPost_ret (v := .agg #[.int .i64 2, .int .i64 0, .string s]) (by simp [results, Tryz.results33, go_sem]) rfl ?_
  exact ⟨rfl, (Fr.refl _).alloc _⟩
set_option maxRecDepth 100000 in
set_option maxHeartbeats 1000000 in
theorem vBlob_any (s : ByteArray) (w : World) : Calls Tryz.prog 34 #[.string s] w fun e w' => e = .returned (.agg #[.int .i64 3, .int .i64 0, .string s]) ∧ Fr w w' := by
  go_enter Tryz.func34, Tryz.ntmps34
  go_wp2
  refine bodyPost_ret (v := .agg #[.int .i64 3, .int .i64 0, .string s]) (by simp [results, Tryz.results34, go_sem]) rfl ?_
  exact ⟨rfl, (Fr.refl _).alloc _⟩

theorem lit3 (w : World) (x y z : VM.Vl) : IsRow (w.alloc (.cells #[.int .i64 x.k, .int .i64 x.n, .string x.s, .int .i64 y.k, .int .i64 y.n, .string y.s, .int .i64 z.k, .int .i64 z.n, .string z.s] 23)) (.slice (some ⟨w.heap.size, 0, none⟩) 3 3) [x, y, z] := by
  refine ⟨_, 3, rfl, Or.inr ⟨w.heap.size, 0, rfl, by simp, ?_⟩⟩
  intro i hi
  match i, hi with
  | 0, _ => simp [go_sem]
  | 1, _ => simp [go_sem]
  | 2, _ => simp [go_sem]

theorem ex1 : shn ⟨2, 0, ⟨#[105, 116, 39, 115]⟩⟩ = [39, 105, 116, 39, 39, 115, 39] ∧ VM.chk ⟨2, 0, ⟨#[105, 116, 39, 115]⟩⟩ = 0 := by decide +kernel
theorem ex2 : shn ⟨3, 0, ⟨#[10, 255]⟩⟩ = [120, 39, 48, 97, 102, 102, 39] ∧ VM.chk ⟨3, 0, ⟨#[10, 255]⟩⟩ = 0 := by decide +kernel
theorem ex3 : VS.rd [45, 49, 50] = ⟨1, -12, [], 0⟩ := by rfl
theorem ex4 : VS.rd [57, 50, 50, 51, 51, 55, 50, 48, 51, 54, 56, 53, 52, 55, 55, 53, 56, 48, 56] = ⟨0, 0, [], 8⟩ := by rfl
theorem ex5 : CM.cmp ⟨1, 9, ⟨#[]⟩⟩ ⟨2, 0, ⟨#[]⟩⟩ = -1 ∧ VM.chkAll [⟨1, 9, ⟨#[]⟩⟩, ⟨2, 0, ⟨#[]⟩⟩] = 0 := by decide +kernel
def exL : List VM.Vl := [⟨2, 0, ⟨#[98]⟩⟩, ⟨1, 3, ⟨#[]⟩⟩, ⟨0, 0, ⟨#[]⟩⟩]
def exM : List VM.Vl := [⟨0, 0, ⟨#[]⟩⟩, ⟨1, 3, ⟨#[]⟩⟩, ⟨2, 0, ⟨#[98]⟩⟩]
theorem ex6 : sErr exL = 0 := by decide +kernel
theorem ex7 : srtOf exL = exM := by
  unfold srtOf
  rw [if_pos ex6]
  refine SM.sorted_one ((SM.srt_perm exL).trans (List.reverse_perm exM)) (SM.srt_sorted exL) ?_
  have h : (SM.le ⟨0, 0, ⟨#[]⟩⟩ ⟨1, 3, ⟨#[]⟩⟩ && SM.le ⟨0, 0, ⟨#[]⟩⟩ ⟨2, 0, ⟨#[98]⟩⟩ && SM.le ⟨1, 3, ⟨#[]⟩⟩ ⟨2, 0, ⟨#[98]⟩⟩) = true := by decide +kernel
  simp only [Bool.and_eq_true] at h
  unfold exM
  simp [h.1.1, h.1.2, h.2]
theorem ex8 : VM.chk ⟨4, 0, ⟨#[]⟩⟩ = 7 := by decide +kernel

theorem beginS (w : World) : Calls Tryz.prog 22 #[.slice (some ⟨w.heap.size, 0, none⟩) 3 3] (w.alloc (.cells #[.int .i64 2, .int .i64 0, .string ⟨#[98]⟩, .int .i64 1, .int .i64 3, .string ⟨#[]⟩, .int .i64 0, .int .i64 0, .string ⟨#[]⟩] 23)) fun e w' => ∃ v', e = .returned (.tuple #[v', .int .i64 0]) ∧ Fr w w' ∧ IsRow w' v' exM := by
  refine (sort_any _ exL _ (lit3 w ⟨2, 0, ⟨#[98]⟩⟩ ⟨1, 3, ⟨#[]⟩⟩ ⟨0, 0, ⟨#[]⟩⟩) (Or.inr ⟨_, _, _, _, rfl⟩) (by decide)).mono ?_
  rw [ex6, ex7]
  rintro _ w' ⟨v', rfl, hf, hr, _⟩
  exact ⟨v', rfl, ((Fr.refl w).alloc _).trans hf, hr⟩
end Go.Proofs.YtjadmefiilkgmaaGreatDoor
