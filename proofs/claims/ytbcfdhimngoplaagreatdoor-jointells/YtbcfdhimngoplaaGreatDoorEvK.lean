/-
  What is told of an expression's nodes from the leaves up, when it keeps its form: the plain side of Eval's walk.
-/
import Derived.Test.YtbcfdhimngoplaaGreatDoorEvJ
import Derived.Test.YtbcfdhimngoplaaGreatDoorExU
namespace Go.Proofs.YtbcfdhimngoplaaGreatDoor
open Go.ChangeShapes Go.WideShapes Go.ChangeAt Go.RowKit
set_option linter.unusedVariables false
set_option linter.unusedSimpArgs false
set_option maxRecDepth 100000
namespace EV
def gd (x : VM.Vl) : Prop := WH.Ok x.n ∧ x.s.size ≤ 9223372036854775807
theorem gd_nul : gd EX.nul := ⟨⟨by decide, by decide⟩, by decide⟩
theorem gd_vt (t : Int) : gd (vt t) := by
 unfold vt
 split
 · exact ⟨⟨by decide, by decide⟩, by decide⟩
 ·
  split
  · exact ⟨⟨by decide, by decide⟩, by decide⟩
  · exact gd_nul
theorem ov_ok {x y : Int} (h : ov x = .ok y) : WH.Ok y := by
 unfold ov at h
 split at h
 · cases h; assumption
 · cases h
theorem num_ok {op a b y : Int} (ha : WH.Ok a) (hb : WH.Ok b) (h : num op a b = .ok y) : WH.Ok y := by
 unfold num at h
 split at h
 · exact ov_ok h
 split at h
 · exact ov_ok h
 split at h
 · exact ov_ok h
 split at h
 · exact ov_ok h
 split at h
 ·
  split at h
  · cases h
  · exact ov_ok h
 split at h
 · cases h
 ·
  cases h
  unfold WH.Ok at *
  have h1 : (Int.tmod a b).natAbs ≤ a.natAbs := by
   rw [Int.natAbs_tmod]
   exact Nat.mod_le _ _
  by_cases h0 : 0 ≤ a
  ·
   have := Int.tmod_nonneg b h0
   omega
  ·
   have h2 : Int.tmod a b ≤ 0 := by
    have e : a = -(-a) := by omega
    rw [e, Int.neg_tmod]
    have := Int.tmod_nonneg b (show 0 ≤ -a by omega)
    omega
   omega
theorem gd_head {l : List VM.Vl} (h : ∀ x ∈ l, gd x) : gd (l.headD EX.nul) := by
 cases l with
 | nil => exact gd_nul
 | cons x r => exact h x (by simp)
theorem gd_last {l : List VM.Vl} (h : ∀ x ∈ l, gd x) : gd (l.getLastD EX.nul) := by
 rw [List.getLastD_eq_getLast?]
 cases hl : l.getLast? with
 | none => exact gd_nul
 | some y => exact h y (List.mem_of_getLast? hl)
theorem rck_gd {op : Int} {l : List VM.Vl} {x : VM.Vl} (h : ∀ x ∈ l, gd x) (hx : rck op l = .ok x) : gd x := by
 unfold rck at hx
 split at hx
 · cases hx
 split at hx
 · cases hx; exact gd_nul
 split at hx
 · cases hx
 ·
  rename_i n hn
  cases hx
  exact ⟨num_ok (gd_head h).1 (gd_last h).1 hn, (by decide : (ByteArray.mk #[]).size ≤ 9223372036854775807)⟩
theorem rck_ne {op : Int} {l : List VM.Vl} {c : Nat} (hx : rck op l = .error c) : c ≠ 0 := by
 unfold rck at hx
 split at hx
 · cases hx; decide
 split at hx
 · cases hx
 split at hx
 ·
  rename_i c' hn
  cases hx
  exact num_ne hn
 · cases hx
theorem tl_gd {p : Int × Nat} {x : VM.Vl} (h : tl p = .ok x) : gd x := by
 unfold tl at h
 split at h
 · cases h
 · cases h; exact gd_vt _
theorem tl_ne {p : Int × Nat} {c : Nat} (h : tl p = .error c) : c ≠ 0 := by
 unfold tl at h
 split at h
 · cases h; assumption
 · cases h
theorem wo_gd {f : List UInt8 → Option VM.Vl} {n : EX.Nd} {l : List VM.Vl} {x : VM.Vl} (hf : ∀ s y, f s = some y → gd y) (hn : gd n.v) (hl : ∀ x ∈ l, gd x) (h : wo f n l = .ok x) : gd x := by
 unfold wo at h
 split at h
 · cases h; exact hn
 split at h
 ·
  split at h
  ·
   rename_i y hy
   cases h
   exact hf _ _ hy
  · cases h
 split at h
 · exact rck_gd hl h
 split at h
 · exact tl_gd h
 · exact tl_gd h
theorem wo_ne {f : List UInt8 → Option VM.Vl} {n : EX.Nd} {l : List VM.Vl} {c : Nat} (h : wo f n l = .error c) : c ≠ 0 := by
 unfold wo at h
 split at h
 · cases h
 split at h
 ·
  split at h
  · cases h
  · cases h; decide
 split at h
 · exact rck_ne h
 split at h
 · exact tl_ne h
 · exact tl_ne h
theorem aw_of {n : EX.Nd} {l : List VM.Vl} (h : EX.nchk n = 0) (hk : l.length = n.kids.toNat) : Aw n.op l := by
 unfold EX.nchk at h
 split at h
 · cases h
 split at h
 · cases h
 rename_i h1 h2
 clear h
 obtain ⟨op, kids, v, nm⟩ := n
 simp only at *
 unfold Aw Ar
 unfold EX.kl EX.km at h2
 have h3 : op = 1 ∨ op = 2 ∨ op = 3 ∨ op = 4 ∨ op = 5 ∨ op = 6 ∨ op = 7 ∨ op = 8 ∨ op = 9 ∨ op = 10 ∨ op = 11 ∨ op = 12 ∨ op = 13 ∨ op = 14 ∨ op = 15 ∨ op = 16 ∨ op = 17 ∨ op = 18 ∨ op = 19 ∨ op = 20 ∨ op = 21 ∨ op = 22 ∨ op = 23 ∨ op = 24 ∨ op = 25 := by omega
 rcases h3 with rfl | rfl | rfl | rfl | rfl | rfl | rfl | rfl | rfl | rfl | rfl | rfl | rfl | rfl | rfl | rfl | rfl | rfl | rfl | rfl | rfl | rfl | rfl | rfl | rfl <;> simp at h2 ⊢ <;> omega
end EV
namespace EX
theorem dOf_step {n : Nd} {e : List Nd} {df ds : List Nat} (h : up dOf (n :: e) df = .ok ds) :
  nchk n = 0 ∧ n.kids ≤ (df.length : Int) ∧ ∃ y, up dOf e (df.take (df.length - n.kids.toNat) ++ [y]) = .ok ds := by
 rw [up] at h
 split at h
 · cases h
 ·
  rename_i y hy
  unfold dOf at hy
  split at hy
  · cases hy
  ·
   split at hy
   · cases hy
   ·
    rename_i h1 h2
    rw [List.length_drop] at h2
    exact ⟨by omega, by omega, y, h⟩
theorem kids_nonneg {n : Nd} (h : nchk n = 0) : 0 ≤ n.kids := by
 unfold nchk at h
 split at h
 · cases h
 split at h
 · cases h
 rename_i h1 h2
 have : 0 ≤ kl n.op := by unfold kl; repeat' (first | split | omega)
 omega
theorem step_len {α : Type} {n : Nd} {df : List Nat} {free : List α} {y : Nat} {x : α} (h : df.length = free.length) : (df.take (df.length - n.kids.toNat) ++ [y]).length = (free.take (free.length - n.kids.toNat) ++ [x]).length := by
 simp only [List.length_append, List.length_take, List.length_singleton, h]
end EX
end Go.Proofs.YtbcfdhimngoplaaGreatDoor
