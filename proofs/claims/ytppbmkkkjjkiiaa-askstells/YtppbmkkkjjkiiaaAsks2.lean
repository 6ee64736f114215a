/-
  What Less and Same of package logic answer.
-/
import Derived.Test.YtppbmkkkjjkiiaaTold
namespace Go.Proofs.Ytppbmkkkjjkiiaa
open Go.ChangeShapes Go.WideShapes Go.ChangeAt Go.RowKit
set_option linter.unusedVariables false
set_option linter.unusedSimpArgs false

def LG.lt2 (a b : VM.Vl) : Int := if VM.chkAll [a, b] = 0 then LG.lt a b else 0
def LG.sm2 (a b : VM.Vl) : Int := if VM.chkAll [a, b] = 0 then LG.sm a b else 0

set_option maxRecDepth 100000 in
set_option maxHeartbeats 1000000 in
theorem Less_any (a b : VM.Vl) (w : World) :
    Calls Try.prog 21 #[a.val, b.val] w fun e w' => e = .returned (.tuple #[.int .i64 (LG.lt2 a b), .int .i64 (VM.chkAll [a, b])]) ∧ Fr w w' := by
  have ho := fun W => less_any a b W
  have HC : Hid (LG.lt2 a b = if VM.chkAll [a, b] = 0 then LG.lt a b else 0) := rfl
  generalize hA : LG.lt a b = o at *
  generalize hC : VM.chkAll [a, b] = c at *
  generalize LG.lt2 a b = x at *
  have hca := fun v W hr => lcheckAll_any v [a, b] W hr (by simp)
  rw [hC] at hca
  obtain ⟨ak, an, sa⟩ := a
  obtain ⟨bk, bn, sb⟩ := b
  unfold VM.Vl.val at *
  simp only at ho ⊢
  have f0 : Fr w (((w.alloc (.cells #[.int .i64 ak, .int .i64 an, .string sa] 32)).alloc (.cells #[.int .i64 bk, .int .i64 bn, .string sb] 32)).alloc (.cells #[.int .i64 ak, .int .i64 an, .string sa, .int .i64 bk, .int .i64 bn, .string sb] 32)) := (((Fr.refl w).alloc _).alloc _).alloc _
  have F0 : Hid _ := f0
  clear f0 hA hC
  go_enter Try.func21, Try.ntmps21
  have hr2 : IsRow (((w.alloc (.cells #[.int .i64 ak, .int .i64 an, .string sa] 32)).alloc (.cells #[.int .i64 bk, .int .i64 bn, .string sb] 32)).alloc (.cells #[.int .i64 ak, .int .i64 an, .string sa, .int .i64 bk, .int .i64 bn, .string sb] 32)) (.slice (some ⟨w.heap.size + 1 + 1, 0, none⟩) 2 2) [⟨ak, an, sa⟩, ⟨bk, bn, sb⟩] := by
    refine ⟨_, 2, rfl, Or.inr ⟨w.heap.size + 1 + 1, 0, rfl, by simp, ?_⟩⟩
    intro i hi
    match i, hi with
    | 0, _ => simp [go_sem]
    | 1, _ => simp [go_sem]
  have hcc := hca _ _ hr2
  have c1 : (((w.alloc (.cells #[.int .i64 ak, .int .i64 an, .string sa] 32)).alloc (.cells #[.int .i64 bk, .int .i64 bn, .string sb] 32)).alloc (.cells #[.int .i64 ak, .int .i64 an, .string sa, .int .i64 bk, .int .i64 bn, .string sb] 32)).heap[w.heap.size]? = some (.cells #[.int .i64 ak, .int .i64 an, .string sa] 32 (0, 0)) := by
    rw [Below.heap_alloc _ _ _ (by simp; omega), Below.heap_alloc _ _ _ (by simp)]
    show (w.heap.push _)[w.heap.size]? = _
    rw [Array.getElem?_push_size]
  have c2 : (((w.alloc (.cells #[.int .i64 ak, .int .i64 an, .string sa] 32)).alloc (.cells #[.int .i64 bk, .int .i64 bn, .string sb] 32)).alloc (.cells #[.int .i64 ak, .int .i64 an, .string sa, .int .i64 bk, .int .i64 bn, .string sb] 32)).heap[w.heap.size + 1]? = some (.cells #[.int .i64 bk, .int .i64 bn, .string sb] 32 (0, 0)) := by
    rw [Below.heap_alloc _ _ _ (by simp)]
    show ((w.alloc _).heap.push _)[w.heap.size + 1]? = _
    rw [show w.heap.size + 1 = (w.alloc (.cells #[.int .i64 ak, .int .i64 an, .string sa] 32)).heap.size by simp, Array.getElem?_push_size]
  have hl1 := (Array.getElem?_eq_some_iff.1 c1).1
  have hl2 := (Array.getElem?_eq_some_iff.1 c2).1
  have C1 : Hid _ := c1
  have C2 : Hid _ := c2
  have HL1 : Hid _ := hl1
  have HL2 : Hid _ := hl2
  clear hr2 hca c1 c2 hl1 hl2
  go_wp2_with (go_at_call 33; refine hcc.mono ?_)
  rintro e w1 ⟨rfl, hf1⟩
  have hh1 := (hf1.block _ HL1.out).trans C1.out
  have hh2 := (hf1.block _ HL2.out).trans C2.out
  have a0 : w1.cell? ⟨w.heap.size, 0, none⟩ = some (.int .i64 ak) := (Lib.cell_of_heap hh1 _).trans rfl
  have a1 : w1.cell? ⟨w.heap.size, 1, none⟩ = some (.int .i64 an) := (Lib.cell_of_heap hh1 _).trans rfl
  have a2 : w1.cell? ⟨w.heap.size, 2, none⟩ = some (.string sa) := (Lib.cell_of_heap hh1 _).trans rfl
  have b0 : w1.cell? ⟨w.heap.size + 1, 0, none⟩ = some (.int .i64 bk) := (Lib.cell_of_heap hh2 _).trans rfl
  have b1 : w1.cell? ⟨w.heap.size + 1, 1, none⟩ = some (.int .i64 bn) := (Lib.cell_of_heap hh2 _).trans rfl
  have b2 : w1.cell? ⟨w.heap.size + 1, 2, none⟩ = some (.string sb) := (Lib.cell_of_heap hh2 _).trans rfl
  have F1 : Hid (Fr w w1) := Fr.trans F0.out hf1
  clear hf1 hh1 hh2 hcc HL1 HL2 C1 C2 F0
  by_cases hc : c = 0
  · subst hc
    rw [if_pos rfl] at HC
    go_wp2_with (go_at_call 34; refine (ho _).mono ?_)
    rintro e w2 ⟨rfl, hf2⟩
    have F2 : Hid _ := Fr.trans F1.out hf2
    clear hf2 ho
    go_wp2_with fail
    go_ret2
    rw [HC.out]
    exact ⟨rfl, F2.out⟩
  · have q1 : ((c : Int) != 0) = true := by simp; omega
    have q2 : ¬ ((c : Int) = 0) := by omega
    rw [if_neg hc] at HC
    go_wp2_with fail
    go_ret2
    rw [HC.out]
    exact ⟨rfl, F1.out⟩

set_option maxRecDepth 100000 in
set_option maxHeartbeats 1000000 in
theorem Same_any (a b : VM.Vl) (w : World) :
    Calls Try.prog 22 #[a.val, b.val] w fun e w' => e = .returned (.tuple #[.int .i64 (LG.sm2 a b), .int .i64 (VM.chkAll [a, b])]) ∧ Fr w w' := by
  have ho := fun W => same_any a b W
  have HC : Hid (LG.sm2 a b = if VM.chkAll [a, b] = 0 then LG.sm a b else 0) := rfl
  generalize hA : LG.sm a b = o at *
  generalize hC : VM.chkAll [a, b] = c at *
  generalize LG.sm2 a b = x at *
  have hca := fun v W hr => lcheckAll_any v [a, b] W hr (by simp)
  rw [hC] at hca
  obtain ⟨ak, an, sa⟩ := a
  obtain ⟨bk, bn, sb⟩ := b
  unfold VM.Vl.val at *
  simp only at ho ⊢
  have f0 : Fr w (((w.alloc (.cells #[.int .i64 ak, .int .i64 an, .string sa] 32)).alloc (.cells #[.int .i64 bk, .int .i64 bn, .string sb] 32)).alloc (.cells #[.int .i64 ak, .int .i64 an, .string sa, .int .i64 bk, .int .i64 bn, .string sb] 32)) := (((Fr.refl w).alloc _).alloc _).alloc _
  have F0 : Hid _ := f0
  clear f0 hA hC
  go_enter Try.func22, Try.ntmps22
  have hr2 : IsRow (((w.alloc (.cells #[.int .i64 ak, .int .i64 an, .string sa] 32)).alloc (.cells #[.int .i64 bk, .int .i64 bn, .string sb] 32)).alloc (.cells #[.int .i64 ak, .int .i64 an, .string sa, .int .i64 bk, .int .i64 bn, .string sb] 32)) (.slice (some ⟨w.heap.size + 1 + 1, 0, none⟩) 2 2) [⟨ak, an, sa⟩, ⟨bk, bn, sb⟩] := by
    refine ⟨_, 2, rfl, Or.inr ⟨w.heap.size + 1 + 1, 0, rfl, by simp, ?_⟩⟩
    intro i hi
    match i, hi with
    | 0, _ => simp [go_sem]
    | 1, _ => simp [go_sem]
  have hcc := hca _ _ hr2
  have c1 : (((w.alloc (.cells #[.int .i64 ak, .int .i64 an, .string sa] 32)).alloc (.cells #[.int .i64 bk, .int .i64 bn, .string sb] 32)).alloc (.cells #[.int .i64 ak, .int .i64 an, .string sa, .int .i64 bk, .int .i64 bn, .string sb] 32)).heap[w.heap.size]? = some (.cells #[.int .i64 ak, .int .i64 an, .string sa] 32 (0, 0)) := by
    rw [Below.heap_alloc _ _ _ (by simp; omega), Below.heap_alloc _ _ _ (by simp)]
    show (w.heap.push _)[w.heap.size]? = _
    rw [Array.getElem?_push_size]
  have c2 : (((w.alloc (.cells #[.int .i64 ak, .int .i64 an, .string sa] 32)).alloc (.cells #[.int .i64 bk, .int .i64 bn, .string sb] 32)).alloc (.cells #[.int .i64 ak, .int .i64 an, .string sa, .int .i64 bk, .int .i64 bn, .string sb] 32)).heap[w.heap.size + 1]? = some (.cells #[.int .i64 bk, .int .i64 bn, .string sb] 32 (0, 0)) := by
    rw [Below.heap_alloc _ _ _ (by simp)]
    show ((w.alloc _).heap.push _)[w.heap.size + 1]? = _
    rw [show w.heap.size + 1 = (w.alloc (.cells #[.int .i64 ak, .int .i64 an, .string sa] 32)).heap.size by simp, Array.getElem?_push_size]
  have hl1 := (Array.getElem?_eq_some_iff.1 c1).1
  have hl2 := (Array.getElem?_eq_some_iff.1 c2).1
  have C1 : Hid _ := c1
  have C2 : Hid _ := c2
  have HL1 : Hid _ := hl1
  have HL2 : Hid _ := hl2
  clear hr2 hca c1 c2 hl1 hl2
  go_wp2_with (go_at_call 33; refine hcc.mono ?_)
  rintro e w1 ⟨rfl, hf1⟩
  have hh1 := (hf1.block _ HL1.out).trans C1.out
  have hh2 := (hf1.block _ HL2.out).trans C2.out
  have a0 : w1.cell? ⟨w.heap.size, 0, none⟩ = some (.int .i64 ak) := (Lib.cell_of_heap hh1 _).trans rfl
  have a1 : w1.cell? ⟨w.heap.size, 1, none⟩ = some (.int .i64 an) := (Lib.cell_of_heap hh1 _).trans rfl
  have a2 : w1.cell? ⟨w.heap.size, 2, none⟩ = some (.string sa) := (Lib.cell_of_heap hh1 _).trans rfl
  have b0 : w1.cell? ⟨w.heap.size + 1, 0, none⟩ = some (.int .i64 bk) := (Lib.cell_of_heap hh2 _).trans rfl
  have b1 : w1.cell? ⟨w.heap.size + 1, 1, none⟩ = some (.int .i64 bn) := (Lib.cell_of_heap hh2 _).trans rfl
  have b2 : w1.cell? ⟨w.heap.size + 1, 2, none⟩ = some (.string sb) := (Lib.cell_of_heap hh2 _).trans rfl
  have F1 : Hid (Fr w w1) := Fr.trans F0.out hf1
  clear hf1 hh1 hh2 hcc HL1 HL2 C1 C2 F0
  by_cases hc : c = 0
  · subst hc
    rw [if_pos rfl] at HC
    go_wp2_with (go_at_call 35; refine (ho _).mono ?_)
    rintro e w2 ⟨rfl, hf2⟩
    have F2 : Hid _ := Fr.trans F1.out hf2
    clear hf2 ho
    go_wp2_with fail
    go_ret2
    rw [HC.out]
    exact ⟨rfl, F2.out⟩
  · have q1 : ((c : Int) != 0) = true := by simp; omega
    have q2 : ¬ ((c : Int) = 0) := by omega
    rw [if_neg hc] at HC
    go_wp2_with fail
    go_ret2
    rw [HC.out]
    exact ⟨rfl, F1.out⟩

end Go.Proofs.Ytppbmkkkjjkiiaa
