/-
  Copying a text into a sheet; Seal.
-/
import Derived.Test.YtfjdialbjbomdaaDoorPgB
namespace Go.Proofs.YtfjdialbjbomdaaDoor
open Go.ChangeShapes Go.WideShapes Go.ChangeAt Go.RowKit
set_option linter.unusedVariables false
set_option linter.unusedSimpArgs false

theorem run_copy_str {P : Program} (w : World) (dT sT ty elem : TypeId) (g o dLen dCap : Nat) (s : ByteArray) (cur : Array Value) (t : TypeId)
    (hu : P.underlying dT = some (.slice elem)) (hs : (P.info? elem).map (·.size) = some 1)
    (hg : w.heap[g]? = some (.cells cur t (0, 0))) (hn : s.size ≤ dLen) (hfit : o + s.size ≤ cur.size) :
    (Builtin.copy_ #[dT, sT] ty #[.slice (some ⟨g, o, none⟩) dLen dCap, .string s]).run P w =
      .ok (goInt s.size) (w.setRow g (cur.toList.take o ++ byteV s.data.toList ++ cur.toList.drop (o + s.size)).toArray) := by
  have hbl : (byteV s.data.toList).length = s.size := by rw [byteV_len, dl_len]
  have hst := run_storeCells_at P g o t (byteV s.data.toList) 0 cur w hg (by rw [hbl]; simpa using hfit) (by
    intro v hv
    obtain ⟨b, _, rfl⟩ := List.mem_map.1 hv
    rfl)
  rw [hbl] at hst
  have hm : Nat.min s.size dLen = s.size := Nat.min_eq_left hn
  cases hq : P.info? elem with
  | none => simp [hq] at hs
  | some i =>
    have hi : i.size = 1 := by simpa [hq] using hs
    simp only [Nat.add_zero] at hst
    simp [Builtin.copy_, run_underlying hu, Builtin.lenOf, Builtin.firstCells, sizeOf, typeInfo, hq, hi, hm]
    rw [List.take_of_length_le (by rw [List.length_map, dl_len]; exact Nat.le_refl _)]
    have e : List.map (fun b => (.int .u8 ((b : UInt8).toNat : Int) : Value)) s.data.toList = byteV s.data.toList := rfl
    rw [e, hst]
    simp
/-- these bytes laid over a sheet from a place on -/
def lay (l : List UInt8) (o : Nat) (m : List UInt8) : List UInt8 := l.take o ++ m ++ l.drop (o + m.length)
theorem lay_len (l : List UInt8) (o : Nat) (m : List UInt8) (h : o + m.length ≤ l.length) : (lay l o m).length = l.length := by
  unfold lay
  simp only [List.length_append, List.length_take, List.length_drop]
  omega
theorem lay_row (l : List UInt8) (o : Nat) (m : List UInt8) : ((byteV l).take o ++ byteV m ++ (byteV l).drop (o + m.length)) = byteV (lay l o m) := by
  unfold lay byteV
  rw [List.map_append, List.map_append, List.map_take, List.map_drop]
theorem Sht.copy {w : World} {b : Nat} {l : List UInt8} (h : Sht w b l) (o : Nat) (m : List UInt8) (hf : o + m.length ≤ 256) : Sht (w.setRow b ((byteV l).toArray.toList.take o ++ byteV m ++ (byteV l).toArray.toList.drop (o + m.length)).toArray) b (lay l o m) := by
  refine ⟨by rw [lay_len _ _ _ (by rw [h.len]; exact hf)]; exact h.len, ?_⟩
  rw [setRow_heap w b _ _ _ _ h.at_]
  show some (Obj.cells ((byteV l).take o ++ byteV m ++ (byteV l).drop (o + m.length)).toArray _ _) = _
  rw [lay_row]
theorem copy_step {P : Program} {ops : Array Oper} {o : Oper} {a : Act} {w : World} {K : Act → World → Prop} {Q : Exit → Act → World → Prop} {E : Prop} (hgd : o.guard = none) (d s : Operand) (dT sT : TypeId)
    (ho : o.op = .call { callee := .builtin .copy, args := #[d, s], argTypes := #[dT, sT] }) (v : Value) (w' : World)
    (hrun : (Builtin.copy_ #[dT, sT] o.type #[a.eval d, a.eval s]).run P w = .ok v w') (h : K (a.put o.dst v) w') :
    if Region.wanted o (yielded ops a.tmps) = true then Oper.wp P o a w K Q else E := by
  have hw : Region.wanted o (yielded ops a.tmps) = true := by simp [Region.wanted, hgd]
  rw [if_pos hw]
  unfold Oper.wp
  simp [execOp, ho, resolve, invoke, builtin, hrun, Result.andThen]
  exact h
theorem Tryd.sizeByte : (Tryd.prog.info? 5).map (·.size) = some 1 := by kernel_rfl
theorem copy_str (W : World) (b o n cap : Nat) (l : List UInt8) (s : ByteArray) (ty : TypeId) (h : Sht W b l) (hn : s.size ≤ n) (hf : o + s.size ≤ 256) :
    ∃ W', (Builtin.copy_ #[44, 9] ty #[.slice (some ⟨b, o, none⟩) n cap, .string s]).run Tryd.prog W = .ok (goInt s.size) W' ∧ Sht W' b (lay l o s.data.toList) ∧ ∀ B, B ≤ b → Below B W W' := by
  refine ⟨_, run_copy_str W 44 9 ty 5 b o n cap s _ 42 Tryd.underlying44 Tryd.sizeByte h.at_ hn ?_, ?_, fun B hB => below_setRow (Below.refl B W) hB _⟩
  · have := h.len
    rw [List.size_toArray, byteV_len]
    omega
  · have := h.copy o s.data.toList (by rw [dl_len]; exact hf)
    rw [dl_len] at this
    exact this
end Go.Proofs.YtfjdialbjbomdaaDoor
