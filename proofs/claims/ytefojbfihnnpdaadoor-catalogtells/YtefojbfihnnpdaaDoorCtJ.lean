/-
  What columnOf of package catalog answers.
-/
import Derived.Test.YtefojbfihnnpdaaDoorCtH
import Derived.Laws.CopyOwn
namespace Go.Proofs.YtefojbfihnnpdaaDoor
open Go.ChangeShapes Go.WideShapes Go.ChangeAt Go.RowKit
set_option linter.unusedVariables false
set_option linter.unusedSimpArgs false
set_option maxRecDepth 100000
set_option maxHeartbeats 4000000

namespace CT
def b_ (s : ByteArray) (i : Nat) : Nat := ((bs s).getD i 0).toNat
/-- the column of a text with its marks -/
def colA (x : VM.Vl) : Cl := if x.k = 2 ∧ 3 ≤ x.s.size then ⟨x.s.extract 3 x.s.size, (b_ x.s 0 : Int) - 48, decide (b_ x.s 1 = 110), decide (b_ x.s 2 = 117)⟩ else ⟨⟨#[]⟩, 0, false, false⟩
def colB (x : VM.Vl) : Bool := decide (x.k = 2) && (decide (3 ≤ x.s.size) && (decide (48 ≤ b_ x.s 0 ∧ b_ x.s 0 ≤ 51) && (decide (b_ x.s 1 = 110 ∨ b_ x.s 1 = 45) && decide (b_ x.s 2 = 117 ∨ b_ x.s 2 = 45))))
end CT
theorem Tryd.sizeByte : (Tryd.prog.info? 5).map (·.size) = some 1 := by kernel_rfl
theorem run_copy3 {P : Program} (w : World) (dT sT ty elem : TypeId) (g : Nat) (s : ByteArray) (cur : Array Value) (t : TypeId)
    (hu : P.underlying dT = some (.slice elem)) (hs : (P.info? elem).map (·.size) = some 1)
    (hg : w.heap[g]? = some (.cells cur t (0, 0))) (hn : 3 ≤ s.size) (hfit : cur.size = 3) :
    (Builtin.copy_ #[dT, sT] ty #[.slice (some ⟨g, 0, none⟩) 3 3, .string s]).run P w =
      .ok (goInt 3) (w.setRow g (byteV (s.data.toList.take 3)).toArray) := by
  have hbl : (byteV (s.data.toList.take 3)).length = 3 := by rw [byteV_len, List.length_take, dlenx]; omega
  have hst := run_storeCells_at P g 0 t (byteV (s.data.toList.take 3)) 0 cur w hg (by rw [hbl]; omega) (by
    intro v hv
    obtain ⟨b, _, rfl⟩ := List.mem_map.1 hv
    rfl)
  rw [hbl] at hst
  have hm : Nat.min s.size 3 = 3 := Nat.min_eq_right hn
  cases hq : P.info? elem with
  | none => simp [hq] at hs
  | some i =>
    have hi : i.size = 1 := by simpa [hq] using hs
    simp only [Nat.add_zero] at hst
    simp [Builtin.copy_, run_underlying hu, Builtin.lenOf, Builtin.firstCells, sizeOf, typeInfo, hq, hi, hm]
    have e : List.map (fun b => (.int .u8 ((b : UInt8).toNat : Int) : Value)) (s.data.toList.take 3) = byteV (s.data.toList.take 3) := rfl
    rw [← List.map_take, e, hst]
    have hd : cur.toList.drop 3 = [] := List.drop_of_length_le (by rw [Array.length_toList]; omega)
    simp [Result.andThen, hd]
theorem copy_step {P : Program} {ops : Array Oper} {o : Oper} {a : Act} {w : World} {K : Act → World → Prop} {Q : Exit → Act → World → Prop} {E : Prop} (hgd : o.guard = none) (d s : Operand) (dT sT : TypeId)
    (ho : o.op = .call { callee := .builtin .copy, args := #[d, s], argTypes := #[dT, sT] }) (v : Value) (w' : World)
    (hrun : (Builtin.copy_ #[dT, sT] o.type #[a.eval d, a.eval s]).run P w = .ok v w') (h : K (a.put o.dst v) w') :
    if Region.wanted o (yielded ops a.tmps) = true then Oper.wp P o a w K Q else E := by
  have hw : Region.wanted o (yielded ops a.tmps) = true := by simp [Region.wanted, hgd]
  rw [if_pos hw]
  unfold Oper.wp
  simp [execOp, ho, resolve, invoke, builtin, hrun, Result.andThen]
  exact h
theorem Blk.row {w : World} {b g : Nat} {arr cs : Array Value} {T : TypeId} (h : Blk w b arr T) (hne : g ≠ b) : Blk (w.setRow g cs) b arr T := by
  unfold Blk at *
  rw [← h]
  simp only [World.setRow]
  rw [Array.getElem?_modify, if_neg hne]
theorem bs_three (s : ByteArray) (h : 3 ≤ s.size) : s.data.toList.take 3 = [UInt8.ofNat (CT.b_ s 0), UInt8.ofNat (CT.b_ s 1), UInt8.ofNat (CT.b_ s 2)] := by
  have hl := dlenx s
  have e : ∀ i (hi : i < s.data.toList.length), s.data.toList[i] = UInt8.ofNat (CT.b_ s i) := by
    intro i hi
    unfold CT.b_ CT.bs
    rw [List.getD_eq_getElem?_getD, List.getElem?_eq_getElem hi]
    simp
  match hm : s.data.toList, hl with
  | [], hl => simp at hl; omega
  | [a], hl => simp at hl; omega
  | [a, b], hl => simp at hl; omega
  | a :: b :: c :: r, hl =>
    have e0 := e 0 (by rw [hm]; simp)
    have e1 := e 1 (by rw [hm]; simp)
    have e2 := e 2 (by rw [hm]; simp)
    simp only [hm, List.getElem_cons_zero, List.getElem_cons_succ] at e0 e1 e2
    rw [← e0, ← e1, ← e2]
    rfl
theorem b_lt (s : ByteArray) (i : Nat) : CT.b_ s i < 256 := UInt8.toNat_lt _
end Go.Proofs.YtefojbfihnnpdaaDoor
