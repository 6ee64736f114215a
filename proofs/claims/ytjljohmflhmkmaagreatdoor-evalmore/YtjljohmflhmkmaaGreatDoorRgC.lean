/-
  What single operations do, behind those that are done.
-/
import Derived.Test.YtjljohmflhmkmaaGreatDoorEmC
namespace Go.Proofs.YtjljohmflhmkmaaGreatDoor
open Go.ChangeShapes Go.WideShapes Go.ChangeAt Go.RowKit
set_option linter.unusedVariables false
set_option linter.unusedSimpArgs false
set_option maxRecDepth 100000
set_option maxHeartbeats 2000000
section
variable {P : Program} {ops : Array Oper} {Q : Exit → Act → World → Prop} {i : Nat} {A : Act} {w : World} {K : Act → World → Prop} {d : Option Tmp} {ty : TypeId} {pos : String} {aft : Array Edge}
theorem wpOp_move {x : Operand} {y : Value} (hi : ops[i]? = some { dst := d, op := .move x, type := ty, pos := pos, after := aft, guard := none }) (he : A.eval x = y) (hK : K (A.put d y) w) : wpOp P ops Q i K A w :=
  wpOp_val hi rfl (x := y) (w' := w) (by rw [← he]; simp [execOp]) hK
theorem wpOp_assign {x : Operand} {y : Value} (hi : ops[i]? = some { dst := d, op := .assign x, type := ty, pos := pos, after := aft, guard := none }) (he : A.eval x = y) (hK : K (A.put d y) w) : wpOp P ops Q i K A w :=
  wpOp_val hi rfl (x := y) (w' := w) (by rw [← he]; simp [execOp]) hK
theorem wpOp_extract {x : Operand} {k : Nat} {vs : Array Value} {y : Value} (hi : ops[i]? = some { dst := d, op := .extract x k, type := ty, pos := pos, after := aft, guard := none }) (he : A.eval x = .tuple vs) (hk : vs[k]? = some y) (hK : K (A.put d y) w) : wpOp P ops Q i K A w :=
  wpOp_val hi rfl (x := y) (w' := w) (by simp only [execOp, he]; simp [Instr.extract, hk]) hK
theorem wpOp_load {t : TypeId} {x : Operand} {y : Value} {w' : World} (hi : ops[i]? = some { dst := d, op := .load t x, type := ty, pos := pos, after := aft, guard := none }) (hr : (Instr.loadAt t (A.eval x)).run P w = .ok y w') (hK : K (A.put d y) w') : wpOp P ops Q i K A w :=
  wpOp_val hi rfl (x := y) (w' := w') (by simp [execOp, hr]) hK
theorem wpOp_slice {t : TypeId} {n : Nat} {ps : Array (Nat × Operand)} {y : Value} {w' : World} (hi : ops[i]? = some { dst := d, op := .buildSlice t n ps, type := ty, pos := pos, after := aft, guard := none }) (hr : (Instr.buildSlice t n (ps.map fun (i, x) => (i, A.eval x))).run P w = .ok y w') (hK : K (A.put d y) w') : wpOp P ops Q i K A w :=
  wpOp_val hi rfl (x := y) (w' := w') (by simp [execOp, hr]) hK
theorem wpOp_alloc {t : TypeId} {y : Value} {w' : World} (hi : ops[i]? = some { dst := d, op := .alloc t, type := ty, pos := pos, after := aft, guard := none }) (hr : (Instr.alloc t true (.tuple #[])).run P w = .ok y w') (hK : K (A.put d y) w') : wpOp P ops Q i K A w :=
  wpOp_val hi rfl (x := y) (w' := w') (by simp [execOp, hr]) hK
theorem wpOp_store {t : TypeId} {p x : Operand} {w' : World} (hi : ops[i]? = some { dst := d, op := .store t p x, type := ty, pos := pos, after := aft, guard := none }) (hr : (Instr.storeAt t (A.eval p) (A.eval x)).run P w = .ok () w') (hK : K (A.put d undef) w') : wpOp P ops Q i K A w :=
  wpOp_skip hi rfl (w' := w') (by simp [execOp, hr]) hK
theorem wpOp_call {f : FuncId} {xs : Array Operand} {ts : Array TypeId} {args : Array Value} {R : Ending → World → Prop} (hi : ops[i]? = some { dst := d, op := .call { callee := .value (.func f), args := xs, argTypes := ts }, type := ty, pos := pos, after := aft, guard := none }) (ha : xs.map A.eval = args) (hf : (callFunc f args).run P w = .ok (.enter f args) w) (hc : Calls P f args w R) (hK : ∀ e w2, R e w2 → ∃ v, e = .returned v ∧ K (A.put d v) w2) : wpOp P ops Q i K A w :=
  wpOp_enter hi rfl (w' := w) (f := f) (args := args) (by subst ha; simp [execOp, resolve, invoke, Act.eval, Deferred.ofValue, hf]) hc hK
end
end Go.Proofs.YtjljohmflhmkmaaGreatDoor
