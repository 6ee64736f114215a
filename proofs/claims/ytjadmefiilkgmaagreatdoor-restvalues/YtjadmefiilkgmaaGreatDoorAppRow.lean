/-
  append onto a row of values of the call's own, of a row that came in, nil or not.
-/
import Derived.Test.YtjadmefiilkgmaaGreatDoorRowP
import Derived.Test.YtjadmefiilkgmaaGreatDoorOpenV
import Derived.Laws.AppendOwnNone
import Derived.Laws.OwnMore
import Derived.OwnWalk
import Derived.Lib.Bytealg
namespace Go.Proofs.YtjadmefiilkgmaaGreatDoor
open Go.ChangeShapes Go.WideShapes Go.ChangeAt Go.RowKit
set_option linter.unusedVariables false
set_option linter.unusedSimpArgs false
set_option maxRecDepth 100000

theorem Tryz.infoVal : (Tryz.prog.info? 23).map (fun i => (i.zero, i.size, i.bytes)) = some (some (.agg #[.int .i64 0, .int .i64 0, .string ⟨#[]⟩]), 3, 32) := by kernel_rfl
def rowV (l : List VM.Vl) : List Value := l.flatMap fun x => [.int .i64 x.k, .int .i64 x.n, .string x.s]
theorem rowV_snoc (l : List VM.Vl) (x : VM.Vl) : rowV (l ++ [x]) = rowV l ++ [.int .i64 x.k, .int .i64 x.n, .string x.s] := by simp [rowV]
theorem rowV_len (l : List VM.Vl) : (rowV l).length = l.length * 3 := by
  induction l with
  | nil => rfl
  | cons a t ih =>
    simp only [rowV, List.flatMap_cons, List.length_append, List.length_cons, List.length_nil] at *
    omega
theorem rowV_get (l : List VM.Vl) (i : Nat) (h : i < l.length) : (rowV l)[i * 3]? = some (.int .i64 l[i].k) ∧ (rowV l)[i * 3 + 1]? = some (.int .i64 l[i].n) ∧ (rowV l)[i * 3 + 2]? = some (.string l[i].s) := by
  induction l generalizing i with
  | nil => simp at h
  | cons a t ih =>
    cases i with
    | zero => simp [rowV]
    | succ i =>
      have := ih i (by simpa using h)
      have e : rowV (a :: t) = .int .i64 a.k :: .int .i64 a.n :: .string a.s :: rowV t := by simp [rowV]
      rw [e, show (i + 1) * 3 = i * 3 + 1 + 1 + 1 by omega]
      simpa using this

theorem rowV_app (l m : List VM.Vl) : rowV (l ++ m) = rowV l ++ rowV m := by simp [rowV]
theorem rowV_one (l : List VM.Vl) : ∀ u ∈ rowV l, u.oneCell' = true := by
  intro u hu
  simp only [rowV, List.mem_flatMap] at hu
  obtain ⟨x, _, hx⟩ := hu
  simp at hx
  rcases hx with rfl | rfl | rfl <;> rfl
theorem row_news {w : World} {b o : Nat} {l : List VM.Vl} (h : CellsAt w b o l) : ∀ j u, (rowV l)[j]? = some u → w.cell? ((⟨b, o, none⟩ : Addr).add j) = some u := by
  intro j u hu
  have hj : j < l.length * 3 := by
    have := (List.getElem?_eq_some_iff.1 hu).1
    rwa [rowV_len] at this
  have hi : j / 3 < l.length := by omega
  obtain ⟨e0, e1, e2⟩ := rowV_get l (j / 3) hi
  obtain ⟨c0, c1, c2⟩ := h (j / 3) hi
  rw [add_at _ _ rfl]
  simp only
  have hm : j = j / 3 * 3 ∨ j = j / 3 * 3 + 1 ∨ j = j / 3 * 3 + 2 := by omega
  rcases hm with hm | hm | hm
  · rw [hm] at hu ⊢
    rw [e0] at hu
    rw [c0, hu]
  · rw [hm, e1] at hu
    rw [hm, ← Nat.add_assoc, c1, hu]
  · rw [hm, e2] at hu
    rw [hm, ← Nat.add_assoc, c2, hu]
theorem row_of_own {w : World} {base : Nat} {v : Value} {n : Nat} {l : List VM.Vl} (h : w.ownsRow base 23 3 v n (rowV l)) : IsRow w v l := by
  have hn : n = l.length := by have := h.1; rw [rowV_len] at this; omega
  subst hn
  rcases h.2 with ⟨rfl, h0⟩ | ⟨g, cap, cur, rfl, h2, h3, h4, h5, h6, h7⟩
  · have := List.length_eq_zero_iff.1 h0
    subst this
    exact ⟨none, 0, rfl, Or.inl rfl⟩
  · refine ⟨_, cap, rfl, Or.inr ⟨g, 0, rfl, (Array.getElem?_eq_some_iff.1 h3).1, ?_⟩⟩
    intro i hi
    obtain ⟨a, b, c⟩ := rowV_get l i hi
    have key : ∀ j u, (rowV l)[j]? = some u → w.cell? ⟨g, 0 + j, none⟩ = some u := by
      intro j u hu
      rw [Nat.zero_add, Lib.cell_of_heap h3]
      rw [← h7, List.getElem?_take] at hu
      split at hu
      · rw [← hu, Array.getElem?_toList]
      · cases hu
    exact ⟨key _ _ a, key _ _ b, key _ _ c⟩

def NilOrRow (v : Value) : Prop := v = .slice none 0 0 ∨ ∃ A n c, v = .slice (some A) n c
theorem grown_same (w : World) (r : Option Nat) : w.grownBy w r := ⟨rfl, rfl, rfl, Nat.le_refl _, fun _ _ _ => rfl⟩

theorem wp_append_row {w : World} {o : Oper} {a : Act} {K : Act → World → Prop} {Q : Exit → Act → World → Prop} (s x : Operand)
    (ho : o.op = .call { callee := .builtin .append, args := #[s, x], argTypes := #[28, 28] })
    (base : Nat) (v : Value) (n : Nat) (xs : List VM.Vl) (hs : a.eval s = v) (hown : w.ownsRow base 23 3 v n (rowV xs))
    (u : Value) (l : List VM.Vl) (hx : a.eval x = u) (hi : IsRow w u l) (hn : NilOrRow u) (hsz : (n + l.length) * 32 ≤ 140737488355328) (hbase : base ≤ w.heap.size)
    (h : ∀ v' w', w'.ownsRow base 23 3 v' (n + l.length) (rowV (xs ++ l)) → w.grownBy w' v.ownBlock → K (a.put o.dst v') w') : o.wp Tryz.prog a w K Q := by
  obtain ⟨i0, hi0, hz0, hz1, hz2⟩ := info_parts Tryz.infoVal
  rcases hn with rfl | ⟨A, m, c, rfl⟩
  · obtain ⟨a', cap', he, _⟩ := hi
    simp only [Value.slice.injEq] at he
    have hl : l = [] := List.length_eq_zero_iff.1 he.2.1.symm
    subst hl
    have hrun := run_append_owned_none (P := Tryz.prog) (w := w) base 28 o.type 23 i0 3 Tryz.underlying28 hi0 v n (rowV xs) hown
    unfold Oper.wp
    simp [execOp, ho, resolve, invoke, builtin, hs, hx, hrun, Result.andThen]
    exact h v w (by simpa using hown) (grown_same w _)
  · obtain ⟨a', cap', he, hcs⟩ := hi
    simp only [Value.slice.injEq] at he
    obtain ⟨rfl, rfl, rfl⟩ := he
    refine wp_append_own w s x 28 ho base 23 i0 (.agg #[.int .i64 0, .int .i64 0, .string ⟨#[]⟩]) 3 32 Tryz.underlying28 hi0 hz0 hz1 hz2 rfl (by decide) v n (rowV xs) hs hown A l.length c (rowV l) hx (rowV_len l) ?_ (rowV_one l) (by unfold maxLen; omega) hsz hbase fun v' w' h1 h2 _ => h v' w' (by rw [rowV_app]; exact h1) h2
    rcases hcs with h0 | ⟨b, o', hA, hb, hc⟩
    · subst h0
      intro j u hu
      simp [rowV] at hu
    · simp only [Option.some.injEq] at hA
      subst hA
      exact row_news hc
theorem wpList_append_row {w : World} {ops : Array Oper} {rest : List Oper} {o : Oper} {a : Act} {Q : Exit → Act → World → Prop} (hgd : o.guard = none) (s x : Operand)
    (ho : o.op = .call { callee := .builtin .append, args := #[s, x], argTypes := #[28, 28] })
    (base : Nat) (v : Value) (n : Nat) (xs : List VM.Vl) (hs : a.eval s = v) (hown : w.ownsRow base 23 3 v n (rowV xs))
    (u : Value) (l : List VM.Vl) (hx : a.eval x = u) (hi : IsRow w u l) (hn : NilOrRow u) (hsz : (n + l.length) * 32 ≤ 140737488355328) (hbase : base ≤ w.heap.size)
    (h : ∀ v' w', w'.ownsRow base 23 3 v' (n + l.length) (rowV (xs ++ l)) → w.grownBy w' v.ownBlock → wpList Tryz.prog ops Q rest (a.put o.dst v') w') : wpList Tryz.prog ops Q (o :: rest) a w :=
  wpList_plain hgd fun _ hK => wp_append_row s x ho base v n xs hs hown u l hx hi hn hsz hbase fun v' w' h2 h3 => hK _ _ (h v' w' h2 h3)
theorem step_append_row {ops : Array Oper} {o : Oper} {a : Act} {w : World} {K : Act → World → Prop} {Q : Exit → Act → World → Prop} {E : Prop}
    (hg : o.guard = none) (s x : Operand)
    (ho : o.op = .call { callee := .builtin .append, args := #[s, x], argTypes := #[28, 28] })
    (base : Nat) (v : Value) (n : Nat) (xs : List VM.Vl) (hs : a.eval s = v) (hown : w.ownsRow base 23 3 v n (rowV xs))
    (u : Value) (l : List VM.Vl) (hx : a.eval x = u) (hi : IsRow w u l) (hn : NilOrRow u) (hsz : (n + l.length) * 32 ≤ 140737488355328) (hbase : base ≤ w.heap.size)
    (h : ∀ v' w', w'.ownsRow base 23 3 v' (n + l.length) (rowV (xs ++ l)) → w.grownBy w' v.ownBlock → K (a.put o.dst v') w') :
    if Region.wanted o (yielded ops a.tmps) = true then Oper.wp Tryz.prog o a w K Q else E := by
  have hw : Region.wanted o (yielded ops a.tmps) = true := by simp [Region.wanted, hg]
  rw [if_pos hw]
  exact wp_append_row s x ho base v n xs hs hown u l hx hi hn hsz hbase h
end Go.Proofs.YtjadmefiilkgmaaGreatDoor
