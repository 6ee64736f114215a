/-
  What the document's Width answers; which columns there are.
-/
import Derived.Test.YtbcfdhimngoplaaGreatDoorBpA
namespace Go.Proofs.YtbcfdhimngoplaaGreatDoor
open Go.ChangeShapes Go.WideShapes Go.ChangeAt Go.RowKit
set_option linter.unusedVariables false
set_option linter.unusedSimpArgs false
set_option maxRecDepth 100000
set_option maxHeartbeats 2000000
theorem rwidth_any (v : Value) (ls : List (List VM.Vl)) (w : World) (h : IsRR w v ls) : Calls Tryz.prog 51 #[v] w fun e w' => e = .returned (.int .i64 ((BG.wd ls : Nat) : Int)) ∧ Fr w w' := by
 obtain ⟨a, c, rfl⟩ := h.slice
 obtain ⟨qs, hq, _, hc, hcell, hrow⟩ := h.at
 by_cases h0 : ls.length = 0
 ·
  have hl : ls = [] := List.length_eq_zero_iff.1 h0
  have hw : BG.wd ls = 0 := by rw [hl]; rfl
  rw [hw, h0]
  clear hcell hrow
  go_enter Tryz.func51, Tryz.ntmps51
  go_wp2_with fail
  go_ret
  exact ⟨rfl, by first | exact Fr.refl _ | exact (Fr.refl _).alloc _⟩
 ·
  obtain ⟨b, o, rfl, hb, c0⟩ := hcell 0 (by omega)
  obtain ⟨h1, h2⟩ := hrow 0 (by omega) (by omega)
  have hw : BG.wd ls = qs[0].n := by
   rw [h2]
   unfold BG.wd
   cases ls with
   | nil => simp at h0
   | cons r t => rfl
  rw [hw]
  rw [Nat.add_zero] at c0
  obtain ⟨qa, hqa⟩ : ∃ qa, qs[0].a = qa := ⟨_, rfl⟩
  obtain ⟨qn, hqn⟩ : ∃ qn, qs[0].n = qn := ⟨_, rfl⟩
  obtain ⟨qc, hqc⟩ : ∃ qc, qs[0].c = qc := ⟨_, rfl⟩
  rw [hqa, hqn, hqc] at c0
  rw [hqn]
  clear hcell hrow h1 h2 hw hqa hqn hqc h
  have hq9 : 0 < ls.length := by omega
  clear h0 hq
  generalize ls.length = n at *
  have q0 : ((n : Int) == 0) = false := beq_false_of_ne (by omega)
  have q1 : ¬ ((n : Int) = 0) := by omega
  have q2 : (0 : Int) < (n : Int) := by omega
  go_enter Tryz.func51, Tryz.ntmps51
  go_wp2_with fail
  go_ret
  exact ⟨rfl, by first | exact Fr.refl _ | exact (Fr.refl _).alloc _⟩
namespace BG
theorem hasC_some {ls : List (List VM.Vl)} (h : 0 < ls.length) (c : Int) : hasC ls c = !(decide (c < 0) || decide ((wd ls : Int) ≤ c)) := by
 unfold hasC
 have : ¬ ls.length = 0 := by omega
 simp only [this, decide_false, Bool.false_or]
 by_cases h1 : c < 0
 ·
  have : ¬ 0 ≤ c := by omega
  simp [h1, this]
 ·
  have h2 : 0 ≤ c := by omega
  by_cases h3 : (wd ls : Int) ≤ c
  ·
   have : ¬ c < (wd ls : Int) := by omega
   simp [h1, h2, h3, this]
  ·
   have : c < (wd ls : Int) := by omega
   simp [h1, h2, h3, this]
end BG
end Go.Proofs.YtbcfdhimngoplaaGreatDoor
