/-
  append onto a row of tokens of the call's own, of another row of tokens, nil or not.
-/
import Derived.Test.YtoagobpkenfbkaaGreatDoorTabs
import Derived.Test.YtoagobpkenfbkaaGreatDoorOpenT
import Derived.Laws.AppendOwnNone
import Derived.Laws.OwnMore
import Derived.OwnWalk
import Derived.Lib.Bytealg
namespace Go.Proofs.YtoagobpkenfbkaaGreatDoor
open Go.ChangeShapes Go.WideShapes Go.ChangeAt Go.RowKit
set_option linter.unusedVariables false
set_option linter.unusedSimpArgs false
set_option maxRecDepth 100000

theorem toksV_len (l : List (Nat × LX.Tk)) : (toksV l).length = l.length * 4 := by
  induction l with
  | nil => rfl
  | cons a t ih =>
    simp only [toksV, List.flatMap_cons, List.length_append, List.length_cons, List.length_nil, tokC] at *
    omega
theorem toksV_app (l m : List (Nat × LX.Tk)) : toksV (l ++ m) = toksV l ++ toksV m := by simp [toksV]
theorem toksV_one (l : List (Nat × LX.Tk)) : ∀ u ∈ toksV l, u.oneCell' = true := by
  intro u hu
  simp only [toksV, List.mem_flatMap] at hu
  obtain ⟨x, _, hx⟩ := hu
  simp [tokC] at hx
  rcases hx with rfl | rfl | rfl | rfl <;> rfl
theorem tok_news {w : World} {b o : Nat} {l : List (Nat × LX.Tk)} (h : TokAt w b o (tz l)) : ∀ j u, (toksV l)[j]? = some u → w.cell? ((⟨b, o, none⟩ : Addr).add j) = some u := by
  intro j u hu
  have hj : j < l.length * 4 := by
    have := (List.getElem?_eq_some_iff.1 hu).1
    rwa [toksV_len] at this
  have hi : j / 4 < l.length := by omega
  obtain ⟨e0, e1, e2, e3⟩ := toksV_get l (j / 4) hi
  obtain ⟨c0, c1, c2, c3⟩ := h (j / 4) (by rw [tz_len]; exact hi)
  have et : (tz l)[j / 4]'(by rw [tz_len]; exact hi) = ((l[j / 4].1 : Int), l[j / 4].2) := by simp [tz]
  rw [et] at c0 c1 c2 c3
  rw [add_at _ _ rfl]
  simp only
  have hm : j = j / 4 * 4 ∨ j = j / 4 * 4 + 1 ∨ j = j / 4 * 4 + 2 ∨ j = j / 4 * 4 + 3 := by omega
  rcases hm with hm | hm | hm | hm
  · rw [hm] at hu ⊢
    rw [e0] at hu
    rw [c0, hu]
  · rw [hm, e1] at hu
    rw [hm, ← Nat.add_assoc, c1, hu]
  · rw [hm, e2] at hu
    rw [hm, ← Nat.add_assoc, c2, hu]
  · rw [hm, e3] at hu
    rw [hm, ← Nat.add_assoc, c3, hu]
def NilOrRow (v : Value) : Prop := v = .slice none 0 0 ∨ ∃ A n c, v = .slice (some A) n c
theorem grown_same (w : World) (r : Option Nat) : w.grownBy w r := ⟨rfl, rfl, rfl, Nat.le_refl _, fun _ _ _ => rfl⟩
theorem Ot.nilor {B : Nat} {v : Value} {l : List (Nat × LX.Tk)} {w : World} (h : Ot B v l w) : NilOrRow v := by
  rcases h.2 with ⟨rfl, h0⟩ | ⟨g, cap, cur, rfl, _⟩
  · exact Or.inl rfl
  · exact Or.inr ⟨_, _, _, rfl⟩
theorem Ot.fr {B : Nat} {v : Value} {l : List (Nat × LX.Tk)} {w w' : World} (h : Ot B v l w) (f : Fr w w') : Ot B v l w' := h.keep fun k _ hk => f.block k hk
theorem wp_append_tok {w : World} {o : Oper} {a : Act} {K : Act → World → Prop} {Q : Exit → Act → World → Prop} (s x : Operand)
    (ho : o.op = .call { callee := .builtin .append, args := #[s, x], argTypes := #[22, 22] })
    (base : Nat) (v : Value) (xs : List (Nat × LX.Tk)) (hs : a.eval s = v) (hown : Ot base v xs w)
    (u : Value) (l : List (Nat × LX.Tk)) (hx : a.eval x = u) (hi : IsTk w u (tz l)) (hn : NilOrRow u) (hsz : (xs.length + l.length) * 40 ≤ 140737488355328) (hbase : base ≤ w.heap.size)
    (h : ∀ v' w', Ot base v' (xs ++ l) w' → w.grownBy w' v.ownBlock → K (a.put o.dst v') w') : o.wp Tryz.prog a w K Q := by
  obtain ⟨i0, hi0, hz0, hz1, hz2⟩ := info_parts Tryz.infoTok
  rcases hn with rfl | ⟨A, m, c, rfl⟩
  · obtain ⟨a', cap', he, _⟩ := hi
    simp only [Value.slice.injEq] at he
    have hl : l = [] := by rw [tz_len] at he; exact List.length_eq_zero_iff.1 he.2.1.symm
    subst hl
    have hrun := run_append_owned_none (P := Tryz.prog) (w := w) base 22 o.type 29 i0 4 Tryz.underlying22 hi0 v xs.length (toksV xs) hown
    unfold Oper.wp
    simp [execOp, ho, resolve, invoke, builtin, hs, hx, hrun, Result.andThen]
    exact h v w (by simpa using hown) (grown_same w _)
  · obtain ⟨a', cap', he, hcs⟩ := hi
    simp only [Value.slice.injEq] at he
    rw [tz_len] at he
    obtain ⟨rfl, rfl, rfl⟩ := he
    refine wp_append_own w s x 22 ho base 29 i0 (.agg #[.int .i64 0, .int .i64 0, .int .i64 0, .string ⟨#[]⟩]) 4 40 Tryz.underlying22 hi0 hz0 hz1 hz2 rfl (by decide) v xs.length (toksV xs) hs hown A l.length c (toksV l) hx (toksV_len l) ?_ (toksV_one l) (by unfold maxLen; omega) hsz hbase fun v' w' h1 h2 _ => h v' w' (by unfold Ot; rw [toksV_app, List.length_append]; exact h1) h2
    rcases hcs with h0 | ⟨b, o', hA, hb, hc⟩
    · have : l = [] := by have := congrArg List.length h0; rw [tz_len] at this; exact List.length_eq_zero_iff.1 this
      subst this
      intro j u hu
      simp [toksV] at hu
    · simp only [Option.some.injEq] at hA
      subst hA
      exact tok_news hc
theorem wpList_append_tok {w : World} {ops : Array Oper} {rest : List Oper} {o : Oper} {a : Act} {Q : Exit → Act → World → Prop} (hw : Region.wanted o (yielded ops a.tmps) = true) (s x : Operand)
    (ho : o.op = .call { callee := .builtin .append, args := #[s, x], argTypes := #[22, 22] })
    (base : Nat) (v : Value) (xs : List (Nat × LX.Tk)) (hs : a.eval s = v) (hown : Ot base v xs w)
    (u : Value) (l : List (Nat × LX.Tk)) (hx : a.eval x = u) (hi : IsTk w u (tz l)) (hn : NilOrRow u) (hsz : (xs.length + l.length) * 40 ≤ 140737488355328) (hbase : base ≤ w.heap.size)
    (h : ∀ v' w', Ot base v' (xs ++ l) w' → w.grownBy w' v.ownBlock → wpList Tryz.prog ops Q rest (a.put o.dst v') w') : wpList Tryz.prog ops Q (o :: rest) a w :=
  wpList_step fun _ hK => by rw [if_pos hw]; exact wp_append_tok s x ho base v xs hs hown u l hx hi hn hsz hbase fun v' w' h2 h3 => hK _ _ (h v' w' h2 h3)
end Go.Proofs.YtoagobpkenfbkaaGreatDoor
