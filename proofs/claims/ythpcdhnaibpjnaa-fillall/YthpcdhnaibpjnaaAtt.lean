/-
  attempt of package record: why a reading gave up.
-/
import Derived.Test.YthpcdhnaibpjnaaRdRow
import Derived.Defers
import Derived.Recover
import Derived.Laws.Pointers
namespace Go.Proofs.Ythpcdhnaibpjnaa
open Go.ChangeShapes Go.WideShapes Go.ChangeAt Go.RowKit
set_option linter.unusedVariables false
set_option linter.unusedSimpArgs false

set_option maxRecDepth 100000 in
theorem hta (v : Value) (w : World) : (Instr.typeAssert (.iface 99 v) 20 99 false).run Try.prog w = .ok v w := by
  first | rfl | kernel_rfl
set_option maxRecDepth 100000 in
theorem hfl (v : Value) (w : World) : (Instr.field 99 (.agg #[v]) 0).run Try.prog w = .ok v w := by
  first | rfl | kernel_rfl

set_option maxRecDepth 100000 in
theorem catch_panicking (p : Addr) (x c : Int) (older : List PanicEntry) (w : World) (hc : w.cell? p = some (.int .i64 x)) (hz : w.frozen? p = false) :
    CallsD Try.prog 63 #[.pointer (some p)] (.panicking ({ v := .iface 99 (.agg #[.int .i64 c]), recovered := false } :: older)) w fun e u' w' =>
      e = .returned (.tuple #[]) ∧ u' = .panicking ({ v := .iface 99 (.agg #[.int .i64 c]), recovered := true } :: older) ∧ w' = w.setCell p (.int .i64 c) := by
  refine callsD_of_wpS Try.func63 rfl fun c₀ cs hu => ?_
  apply wpS_seq
  apply wpS_region
  simp [wpOpsS, go_sem, recoverD, hu, Try.ntmps63, Exit.thenS]
  apply wpS_seq
  apply wpS_region
  simp [wpOpsS, go_sem, hu, Exit.thenS, Array.replicate]
  refine wpS_cond (t := true) (by simp [Act.eval, Array.replicate]) ?_
  simp only [if_true]
  apply wpS_region
  simp [wpOpsS, go_sem, hta, hfl, hc, hz, bodyPostS, results, Try.results63]

set_option maxRecDepth 100000 in
theorem catch_idle (p : Addr) (w : World) :
    CallsD Try.prog 63 #[.pointer (some p)] .returning w fun e u' w' => e = .returned (.tuple #[]) ∧ u' = .returning ∧ w' = w := by
  refine callsD_of_wpS Try.func63 rfl fun c₀ cs hu => ?_
  apply wpS_seq
  apply wpS_region
  simp [wpOpsS, go_sem, recoverD, hu, Try.ntmps63, Exit.thenS]
  apply wpS_seq
  apply wpS_region
  simp [wpOpsS, go_sem, hu, Exit.thenS, Array.replicate]
  refine wpS_cond (t := false) (by simp [Act.eval, Array.replicate]) ?_
  simp only [Bool.false_eq_true, if_false]
  refine wpS_of_wp (wp_skip ?_)
  cases c₀
  simp_all [bodyPostS, results, Try.results63]

set_option maxRecDepth 100000 in
set_option maxHeartbeats 1000000 in
theorem attempt_read (p q : Value) (w : World) (Ok : World → Prop) (Bad : Nat → World → Prop)
    (hcall : Calls Try.prog 57 #[p, q] (w.alloc (.cells #[.int .i64 0] 23)) fun e w' => (e = .returned (.tuple #[]) ∧ Ok w') ∨ ∃ c : Nat, e = gave c ∧ Bad c w')
    (hok : ∀ w', Ok w' → w'.heap[w.heap.size]? = some (.cells #[.int .i64 0] 23 (0, 0))) (hbad : ∀ c w', Bad c w' → w'.heap[w.heap.size]? = some (.cells #[.int .i64 0] 23 (0, 0))) :
    Calls Try.prog 56 #[.func (.func 57) #[] #[p, q]] w fun e w' =>
      (e = .returned (.int .i64 0) ∧ ∃ w1, Ok w1 ∧ w' = w1.setCell ⟨w.heap.size, 0, none⟩ (.int .i64 0)) ∨
      ∃ (c : Nat) (w1 : World), e = .returned (.int .i64 c) ∧ Bad c w1 ∧ w' = w1.setCell ⟨w.heap.size, 0, none⟩ (.int .i64 c) := by
  have hmf : ∀ (fn : Fn) (first cap : Array Value) (w : World), (Instr.makeFunc fn first cap).run Try.prog w = .ok (.func fn first cap) w := fun _ _ _ _ => rfl
  go_enter_defers Try.func56, Try.ntmps56
  go_wp2_with (go_at_call 57; refine hcall.mono ?_)
  rintro e w1 (⟨rfl, ho⟩ | ⟨c, rfl, hb⟩)
  · have hh := hok _ ho
    have k0 : w1.cell? ⟨w.heap.size, 0, none⟩ = some (.int .i64 0) := by rw [Lib.cell_of_heap hh]; rfl
    have z0 : w1.frozen? ⟨w.heap.size, 0, none⟩ = false := Lib.frozen_of_heap hh 0
    clear hcall hok hbad
    go_wp2_with fail
    refine leaves_cons (f := 63) (args := #[.pointer (some ⟨w.heap.size, 0, none⟩)]) (by simp) (by simp [go_sem]) ?_
    refine (catch_idle ⟨w.heap.size, 0, none⟩ _).mono ?_
    rintro e u' w'' ⟨rfl, rfl, rfl⟩
    have k1 : (w1.setCell ⟨w.heap.size, 0, none⟩ (.int .i64 0)).cell? ⟨w.heap.size, 0, none⟩ = some (.int .i64 0) := World.cell?_setCell_same _ _ _ k0
    simp [Leaves, settle, results, Try.results56, go_sem, k1]
    exact Or.inl ⟨w1, ho, rfl⟩
  · have hh := hbad _ _ hb
    have k0 : w1.cell? ⟨w.heap.size, 0, none⟩ = some (.int .i64 0) := by rw [Lib.cell_of_heap hh]; rfl
    have z0 : w1.frozen? ⟨w.heap.size, 0, none⟩ = false := Lib.frozen_of_heap hh 0
    clear hcall hok hbad
    go_wp2_with fail
    refine leaves_cons (f := 63) (args := #[.pointer (some ⟨w.heap.size, 0, none⟩)]) (by simp) (by simp [go_sem]) ?_
    refine (catch_panicking ⟨w.heap.size, 0, none⟩ 0 c [] _ k0 z0).mono ?_
    rintro e u' w'' ⟨rfl, rfl, rfl⟩
    have k1 : (w1.setCell ⟨w.heap.size, 0, none⟩ (.int .i64 c)).cell? ⟨w.heap.size, 0, none⟩ = some (.int .i64 c) := World.cell?_setCell_same _ _ _ k0
    simp [Leaves, settle, results, Try.results56, go_sem, k1]
    exact Or.inr ⟨c, rfl, w1, hb, rfl⟩
end Go.Proofs.Ythpcdhnaibpjnaa
