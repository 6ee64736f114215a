/-
  A list of numbers that is handed in, as a plain list; and back.
-/
import Derived.Test.YtppbmkkkjjkiiaaInts
namespace Go.Proofs.Ytppbmkkkjjkiiaa
open Go.ChangeShapes Go.WideShapes Go.ChangeAt Go.RowKit
set_option linter.unusedVariables false
set_option maxRecDepth 100000

theorem Try.cellsElem : Try.prog.cellsOf 3 = 1 := by kernel_rfl
theorem Try.bytesElem : Try.prog.bytesOf 3 = 8 := by kernel_rfl
theorem Try.readsList : Try.prog.readableRec 22 = true := by kernel_rfl
theorem Try.hasList : 22 < Try.prog.types.size := of_decide_eq_true (by kernel_rfl)

theorem add_at (a : Addr) (n : Nat) (h : a.spot = none) : a.add n = ⟨a.block, a.off + n, none⟩ := by
  obtain ⟨b, o, s⟩ := a
  simp only at h
  subst h
  unfold Addr.add
  split
  · rename_i h0; subst h0; rfl
  · rfl
theorem spot_none {W : World} {a : Addr} {v : Value} (g0 : W.cell? a = some v) : a.spot = none := by
  unfold World.cell? at g0
  split at g0
  · split at g0
    · cases g0
    · rename_i hs
      cases hq : a.spot with
      | none => rfl
      | some q => rw [hq] at hs; simp at hs
  · cases g0

theorem open_list {H : Type} {enc : TypeId × Value → H} {W : World} {base : Nat} {r : Reach} {v : Value} {d : DataW H} {p : List MemPlace} (hval : Value.okWide Try.prog W r base 22 v)
    (h : DataW.Trod enc Try.prog W 0 (fun _ => true) true 22 v d p) :
    ∃ l : List Int, IsInts W v l ∧ (∀ x ∈ l, -9223372036854775808 ≤ x ∧ x ≤ 9223372036854775807) ∧ ((d = .nil ∧ l = []) ∨ ∃ es sp, d = .slice es sp ∧ es.length = l.length) := by
  obtain ⟨a0, len0, cap0, rfl⟩ := okWide_slice Try.underlying22 hval
  obtain ⟨fuel, hf⟩ := h
  rcases open_ints Try.underlying22 Try.underlying3 Try.cellsElem hf with ⟨hcs, hx⟩ | ⟨a, len, cap, zs, hcs, hb, hl, hm, hz, hx, hcell, hwf⟩
  · simp only [Value.cells] at hcs
    simp at hcs
    obtain ⟨rfl, rfl, rfl⟩ := hcs
    simp only [Prod.mk.injEq] at hx
    exact ⟨[], ⟨none, 0, rfl, Nat.le_refl _, Or.inl rfl⟩, fun x hx => by simp at hx, Or.inl ⟨hx.1, rfl⟩⟩
  · simp only [Value.cells] at hcs
    simp at hcs
    obtain ⟨rfl, rfl, rfl⟩ := hcs
    simp only [Prod.mk.injEq] at hx
    simp only [if_true] at hz
    have hlen : (zs.take len0).length = len0 := by rw [List.length_take]; omega
    refine ⟨zs.take len0, ⟨some a, cap0, by rw [hlen], by omega, ?_⟩, ?_, Or.inr ⟨_, _, hx.1, by simp [lits]⟩⟩
    · by_cases h0 : len0 = 0
      · subst h0; exact Or.inl (by simp)
      · right
        have g0 := hcell 0 (by omega)
        have hsp : a.spot = none := by
          have := spot_none g0
          simpa [Addr.add] using this
        have hlt : a.block < W.heap.size := by
          have := World.block_lt_of_cell? _ _ g0
          simpa [Addr.add] using this
        refine ⟨a.block, a.off, ?_, hlt, ?_⟩
        · obtain ⟨b, o, s⟩ := a
          simp only at hsp
          rw [hsp]
        · intro i hi
          have hi' : i < zs.length := by omega
          have g := hcell i hi'
          rw [add_at a _ hsp] at g
          rw [g]
          simp [List.getD, hi']
    · intro x hx
      exact wf_i64 (hwf x (List.mem_of_mem_take hx))

theorem shut_list {H : Type} {enc : TypeId × Value → H} {W W' : World} {v : Value} {d : DataW H} {p : List MemPlace} (h : DataW.Trod enc Try.prog W 0 (fun _ => true) true 22 v d p) (hb : Below W.heap.size W W') :
    DataW.Trod enc Try.prog W' 0 (fun b => decide (b < W.heap.size)) true 22 v d p := by
  refine Below.trod laidOut Try.readsList Try.hasList h hb ?_
  obtain ⟨fuel, hf⟩ := h
  exact DataW.trod_lt fuel _ _ _ hf
end Go.Proofs.Ytppbmkkkjjkiiaa
