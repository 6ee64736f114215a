/-
  append onto a row of the call's own, of a list that came in, nil or not.
-/
import Derived.Test.YtppbmkkkjjkiiaaIntL
import Derived.Laws.AppendOwnNone
namespace Go.Proofs.Ytppbmkkkjjkiiaa
open Go.ChangeShapes Go.WideShapes Go.ChangeAt Go.RowKit
set_option linter.unusedVariables false
set_option maxRecDepth 100000

/-- a slice that has no memory is the nil slice -/
def NilOr (v : Value) : Prop := v = .slice none 0 0 ∨ ∃ A n c, v = .slice (some A) n c

theorem open_nil {H : Type} {enc : TypeId × Value → H} {W : World} {base : Nat} {r : Reach} {v : Value} {d : DataW H} {p : List MemPlace} (hval : Value.okWide Try.prog W r base 22 v)
    (h : DataW.Trod enc Try.prog W 0 (fun _ => true) true 22 v d p) : NilOr v := by
  obtain ⟨a0, len0, cap0, rfl⟩ := okWide_slice Try.underlying22 hval
  obtain ⟨fuel, hf⟩ := h
  rcases open_ints Try.underlying22 Try.underlying3 Try.cellsElem hf with ⟨hcs, hx⟩ | ⟨a, len, cap, zs, hcs, hb, hl, hm, hz, hx, hcell, hwf⟩
  · simp only [Value.cells] at hcs
    simp at hcs
    obtain ⟨rfl, rfl, rfl⟩ := hcs
    exact Or.inl rfl
  · simp only [Value.cells] at hcs
    simp at hcs
    obtain ⟨rfl, rfl, rfl⟩ := hcs
    exact Or.inr ⟨a, _, _, rfl⟩

theorem list_bulk {H : Type} {d : DataW H} {l : List Int} (h : (d = .nil ∧ l = []) ∨ ∃ es sp, d = .slice es sp ∧ es.length = l.length) : l.length ≤ Rows.uptoBulk d := by
  have all : ∀ es : List (DataW H), es.length ≤ Rows.uptoBulkAll es := by
    intro es
    induction es with
    | nil => simp
    | cons a t ih =>
      have : 1 ≤ Rows.uptoBulk a := by
        cases a with
        | lit x => cases x <;> simp [Rows.uptoBulk]
        | _ => simp [Rows.uptoBulk]
      simp only [Rows.uptoBulkAll, List.length_cons]
      omega
  rcases h with ⟨rfl, rfl⟩ | ⟨es, sp, rfl, hl⟩
  · simp
  · have := all es
    simp only [Rows.uptoBulk]
    omega

theorem grown_refl (w : World) (r : Option Nat) : w.grownBy w r := ⟨rfl, rfl, rfl, Nat.le_refl _, fun _ _ _ => rfl⟩

theorem append_list {w : World} {ops : Array Oper} {rest : List Oper} {o : Oper} {a : Act} {Q : Exit → Act → World → Prop} (hgd : o.guard = none) (s x : Operand)
    (ho : o.op = .call { callee := .builtin .append, args := #[s, x], argTypes := #[22, 22] })
    (base : Nat) (v : Value) (n : Nat) (xs : List Int) (hs : a.eval s = v) (hown : w.ownsRow base 3 1 v n (intV xs))
    (u : Value) (l : List Int) (hx : a.eval x = u) (hi : IsInts w u l) (hn : NilOr u) (hsz : (n + l.length) * 8 ≤ 140737488355328) (hbase : base ≤ w.heap.size)
    (h : ∀ v' w', w'.ownsRow base 3 1 v' (n + l.length) (intV (xs ++ l)) → w.grownBy w' v.ownBlock → wpList Try.prog ops Q rest (a.put o.dst v') w') : wpList Try.prog ops Q (o :: rest) a w := by
  obtain ⟨i0, hi0, hz0, hz1, hz2⟩ := info_parts Try.infoElem
  rcases hn with rfl | ⟨A, m, c, rfl⟩
  · obtain ⟨a', cap', he, _, _⟩ := hi
    simp only [Value.slice.injEq] at he
    have hl : l = [] := List.length_eq_zero_iff.1 he.2.1.symm
    subst hl
    refine wpList_append_own_none hgd s x 22 ho base 3 i0 1 Try.underlying22 hi0 v n (intV xs) hs hown hx (h v w ?_ (grown_refl w _))
    simpa using hown
  · obtain ⟨a', cap', he, hcap, hcs⟩ := hi
    simp only [Value.slice.injEq] at he
    obtain ⟨rfl, rfl, rfl⟩ := he
    refine wpList_append_own w hgd s x 22 ho base 3 i0 (.int .i64 0) 1 8 Try.underlying22 hi0 hz0 hz1 hz2 rfl (by decide) v n (intV xs) hs hown A l.length c (intV l) hx (by rw [intV_len]; omega) ?_ (intV_one l) (by unfold maxLen; omega) hsz hbase fun v' w' h1 h2 _ => h v' w' (by rw [intV_app]; exact h1) h2
    rcases hcs with h0 | ⟨b, o', hA, hb, hc⟩
    · subst h0
      intro j u hu
      simp [intV] at hu
    · simp only [Option.some.injEq] at hA
      subst hA
      exact IsInts.news hc
end Go.Proofs.Ytppbmkkkjjkiiaa
