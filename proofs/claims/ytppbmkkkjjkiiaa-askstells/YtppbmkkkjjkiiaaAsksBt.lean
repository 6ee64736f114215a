/-
  What Between of package logic answers.
-/
import Derived.Test.YtppbmkkkjjkiiaaAsksIn
namespace Go.Proofs.Ytppbmkkkjjkiiaa
open Go.ChangeShapes Go.WideShapes Go.ChangeAt Go.RowKit
set_option linter.unusedVariables false
set_option linter.unusedSimpArgs false

def LG.bt (a b c : VM.Vl) : Int := LG.and (LG.not (LG.lt a b)) (LG.not (LG.lt c a))
def LG.bt2 (a b c : VM.Vl) : Int := if VM.chkAll [a, b, c] = 0 then LG.bt a b c else 0

set_option maxRecDepth 100000 in
set_option maxHeartbeats 2000000 in
theorem Between_any (a b c : VM.Vl) (w : World) :
    Calls Try.prog 24 #[a.val, b.val, c.val] w fun e w' => e = .returned (.tuple #[.int .i64 (LG.bt2 a b c), .int .i64 (VM.chkAll [a, b, c])]) ∧ Fr w w' := by
  have h1 := fun W => less_any a b W
  have h2 := fun W => less_any c a W
  have n1 := fun W => not_any (LG.lt a b) W
  have n2 := fun W => not_any (LG.lt c a) W
  have h3 := fun W => and_any (LG.not (LG.lt a b)) (LG.not (LG.lt c a)) W
  have HC : Hid (LG.bt2 a b c = if VM.chkAll [a, b, c] = 0 then LG.and (LG.not (LG.lt a b)) (LG.not (LG.lt c a)) else 0) := rfl
  have hca := fun v W hr => lcheckAll_any v [a, b, c] W hr (by simp)
  generalize LG.and (LG.not (LG.lt a b)) (LG.not (LG.lt c a)) = z at *
  generalize LG.not (LG.lt a b) = y1 at *
  generalize LG.not (LG.lt c a) = y2 at *
  generalize LG.lt a b = x1 at *
  generalize LG.lt c a = x2 at *
  generalize LG.bt2 a b c = r at *
  generalize VM.chkAll [a, b, c] = d at *
  obtain ⟨ak, an, sa⟩ := a
  obtain ⟨bk, bn, sb⟩ := b
  obtain ⟨ck, cn, sc⟩ := c
  unfold VM.Vl.val at *
  simp only at h1 h2 ⊢
  have hr2 : IsRow ((((w.alloc (.cells #[.int .i64 ak, .int .i64 an, .string sa] 32)).alloc (.cells #[.int .i64 bk, .int .i64 bn, .string sb] 32)).alloc (.cells #[.int .i64 ck, .int .i64 cn, .string sc] 32)).alloc (.cells #[.int .i64 ak, .int .i64 an, .string sa, .int .i64 bk, .int .i64 bn, .string sb, .int .i64 ck, .int .i64 cn, .string sc] 32)) (.slice (some ⟨w.heap.size + 1 + 1 + 1, 0, none⟩) 3 3) [⟨ak, an, sa⟩, ⟨bk, bn, sb⟩, ⟨ck, cn, sc⟩] := by
    refine ⟨_, 3, rfl, Or.inr ⟨w.heap.size + 1 + 1 + 1, 0, rfl, by simp, ?_⟩⟩
    intro i hi
    match i, hi with
    | 0, _ => simp [go_sem]
    | 1, _ => simp [go_sem]
    | 2, _ => simp [go_sem]
  have hcc := hca _ _ hr2
  clear hr2 hca
  go_enter Try.func24, Try.ntmps24
  go_wp2_with (go_at_call 33; refine hcc.mono ?_)
  rintro _ w1 ⟨rfl, hf1⟩
  clear hcc
  have a0 : w1.cell? ⟨w.heap.size, 0, none⟩ = some (.int .i64 ak) := cell_fr hf1 (by simp [go_sem])
  have a1 : w1.cell? ⟨w.heap.size, 1, none⟩ = some (.int .i64 an) := cell_fr hf1 (by simp [go_sem])
  have a2 : w1.cell? ⟨w.heap.size, 2, none⟩ = some (.string sa) := cell_fr hf1 (by simp [go_sem])
  have b0 : w1.cell? ⟨w.heap.size + 1, 0, none⟩ = some (.int .i64 bk) := cell_fr hf1 (by simp [go_sem])
  have b1 : w1.cell? ⟨w.heap.size + 1, 1, none⟩ = some (.int .i64 bn) := cell_fr hf1 (by simp [go_sem])
  have b2 : w1.cell? ⟨w.heap.size + 1, 2, none⟩ = some (.string sb) := cell_fr hf1 (by simp [go_sem])
  have c0 : w1.cell? ⟨w.heap.size + 1 + 1, 0, none⟩ = some (.int .i64 ck) := cell_fr hf1 (by simp [go_sem])
  have c1 : w1.cell? ⟨w.heap.size + 1 + 1, 1, none⟩ = some (.int .i64 cn) := cell_fr hf1 (by simp [go_sem])
  have c2 : w1.cell? ⟨w.heap.size + 1 + 1, 2, none⟩ = some (.string sc) := cell_fr hf1 (by simp [go_sem])
  have F1 : Hid (Fr w w1) := Fr.trans (Fr.alloc (Fr.alloc (Fr.alloc (Fr.alloc (Fr.refl w) _) _) _) _) hf1
  clear hf1
  by_cases hd : d = 0
  · subst hd
    rw [if_pos rfl] at HC
    go_wp2_with fail
    go_region_held3 (fun W' => W'.cell? ⟨w.heap.size, 0, none⟩ = some (.int .i64 ak) ∧ W'.cell? ⟨w.heap.size, 1, none⟩ = some (.int .i64 an) ∧ W'.cell? ⟨w.heap.size, 2, none⟩ = some (.string sa) ∧ W'.cell? ⟨w.heap.size + 1, 0, none⟩ = some (.int .i64 bk) ∧ W'.cell? ⟨w.heap.size + 1, 1, none⟩ = some (.int .i64 bn) ∧ W'.cell? ⟨w.heap.size + 1, 2, none⟩ = some (.string sb) ∧ W'.cell? ⟨w.heap.size + 1 + 1, 0, none⟩ = some (.int .i64 ck) ∧ W'.cell? ⟨w.heap.size + 1 + 1, 1, none⟩ = some (.int .i64 cn) ∧ W'.cell? ⟨w.heap.size + 1 + 1, 2, none⟩ = some (.string sc)) (first | assumption | (refine ⟨?_, ?_, ?_, ?_, ?_, ?_, ?_, ?_, ?_⟩ <;> first | assumption | exact cell_fr (by assumption) (by assumption) | exact cell_fr (by assumption) (cell_fr (by assumption) (by assumption)))) (first
      | (go_at_call 34; refine (h1 _).mono ?_; rintro e w2 ⟨rfl, hf2⟩)
      | (go_at_call 34; refine (h2 _).mono ?_; rintro e w3 ⟨rfl, hf3⟩)
      | (go_at_call 15; refine (n1 _).mono ?_; rintro e w4 ⟨rfl, rfl⟩)
      | (go_at_call 15; refine (n2 _).mono ?_; rintro e w5 ⟨rfl, rfl⟩)
      | (go_at_call 11; refine (h3 _).mono ?_; rintro e w6 ⟨rfl, rfl⟩))
    all_goals
      go_wp2_with fail
      go_ret2
      rw [HC.out]
      exact ⟨rfl, by repeat (first | exact Fr.refl _ | assumption | exact F1.out | exact Fr.drew F1.out | refine Fr.trans ?_ (by assumption))⟩
  · have q1 : ((d : Int) != 0) = true := by simp; omega
    have q2 : ¬ ((d : Int) = 0) := by omega
    rw [if_neg hd] at HC
    go_wp2_with fail
    go_ret2
    rw [HC.out]
    exact ⟨rfl, F1.out⟩
end Go.Proofs.Ytppbmkkkjjkiiaa
