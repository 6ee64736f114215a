/-
  append of a slice that stands for a list, to a row of one's own.
-/
import Derived.Test.YtcgafodaohmcmaaDkV
namespace Go.Proofs.Ytcgafodaohmcmaa
open Go.ChangeShapes Go.WideShapes Go.ChangeAt Go.RowKit
set_option linter.unusedVariables false
set_option linter.unusedSimpArgs false
set_option maxRecDepth 100000

theorem grown_same (w : World) (r : Option Nat) : w.grownBy w r := ⟨rfl, rfl, rfl, Nat.le_refl _, fun _ _ _ => rfl⟩
theorem run_append_cap0 {P : Program} {w : World} (base : Nat) (t ty e : TypeId) (i : TypeInfo) (size cap : Nat) (ht : P.underlying t = some (.slice e)) (hi : P.info? e = some i)
    (v : Value) (n : Nat) (xs : List Value) (hown : w.ownsRow base e size v n xs) :
    (Builtin.append_ #[t, t] ty #[v, .slice none 0 cap]).run P w = .ok v w := by
  rcases hown.2 with ⟨rfl, rfl⟩ | ⟨g, cap', cur, rfl, _, _, hnc, _⟩
  · simp [Builtin.append_, run_underlying ht, sizeOf, typeInfo, hi, Builtin.lenOf, Builtin.firstCells]
  · simp [Builtin.append_, run_underlying ht, sizeOf, typeInfo, hi, Builtin.lenOf, Builtin.firstCells, hnc, storeCells]
theorem wp_append_L {α : Type} (E : Cd α) {w : World} {o : Oper} {a : Act} {K : Act → World → Prop} {Q : Exit → Act → World → Prop} (s x : Operand) (t e : TypeId) (i : TypeInfo) (z : Value) (by_ : Nat)
    (ho : o.op = .call { callee := .builtin .append, args := #[s, x], argTypes := #[t, t] })
    (ht : Try.prog.underlying t = some (.slice e)) (hi : Try.prog.info? e = some i) (hz : i.zero = some z) (hs1 : i.size = E.k) (hby : i.bytes = by_) (hzs : z.cells.size = E.k)
    (base : Nat) (v : Value) (n : Nat) (xs : List α) (hs : a.eval s = v) (hown : w.ownsRow base e E.k v n (flat E xs))
    (u : Value) (l : List α) (hx : a.eval x = u) (hl : IsL E w u l) (hm : n + l.length ≤ maxLen) (hsz : (n + l.length) * by_ ≤ 140737488355328) (hbase : base ≤ w.heap.size)
    (h : ∀ v' w', w'.ownsRow base e E.k v' (n + l.length) (flat E (xs ++ l)) → w.grownBy w' v.ownBlock → K (a.put o.dst v') w') : o.wp Try.prog a w K Q := by
  obtain ⟨A, cap, rfl, hc, hcs⟩ := hl
  cases A with
  | none =>
    have h0 : l = [] := by
      rcases hcs with h0 | ⟨b, o', hA, _⟩
      · exact h0
      · cases hA
    subst h0
    have hrun := run_append_cap0 (P := Try.prog) (w := w) base t o.type e i E.k cap ht hi v n (flat E xs) hown
    unfold Oper.wp
    simp only [List.length_nil] at hx
    simp [execOp, ho, resolve, invoke, builtin, hs, hx, hrun, Result.andThen]
    exact h v w (by simpa using hown) (grown_same w _)
  | some A =>
    refine wp_append_own w s x t ho base e i z E.k by_ ht hi hz hs1 hby hzs E.pos v n (flat E xs) hs hown A l.length cap (flat E l) hx (flat_len E l) ?_ (flat_one E l) hm hsz hbase fun v' w' h1 h2 _ => h v' w' (by rw [flat_app]; exact h1) h2
    rcases hcs with h0 | ⟨b, o', hA, hb, hcc⟩
    · subst h0
      intro j u hu
      simp [flat] at hu
    · simp only [Option.some.injEq] at hA
      subst hA
      intro j u hu
      rw [Addr.add_lit]
      exact hcc j u hu
theorem step_append_L {α : Type} (E : Cd α) {ops : Array Oper} {o : Oper} {a : Act} {w : World} {K : Act → World → Prop} {Q : Exit → Act → World → Prop} {F : Prop}
    (hg : o.guard = none) (s x : Operand) (t e : TypeId) (i : TypeInfo) (z : Value) (by_ : Nat)
    (ho : o.op = .call { callee := .builtin .append, args := #[s, x], argTypes := #[t, t] })
    (ht : Try.prog.underlying t = some (.slice e)) (hi : Try.prog.info? e = some i) (hz : i.zero = some z) (hs1 : i.size = E.k) (hby : i.bytes = by_) (hzs : z.cells.size = E.k)
    (base : Nat) (v : Value) (n : Nat) (xs : List α) (hs : a.eval s = v) (hown : w.ownsRow base e E.k v n (flat E xs))
    (u : Value) (l : List α) (hx : a.eval x = u) (hl : IsL E w u l) (hm : n + l.length ≤ maxLen) (hsz : (n + l.length) * by_ ≤ 140737488355328) (hbase : base ≤ w.heap.size)
    (h : ∀ v' w', w'.ownsRow base e E.k v' (n + l.length) (flat E (xs ++ l)) → w.grownBy w' v.ownBlock → K (a.put o.dst v') w') :
    if Region.wanted o (yielded ops a.tmps) = true then Oper.wp Try.prog o a w K Q else F := by
  have hw : Region.wanted o (yielded ops a.tmps) = true := by simp [Region.wanted, hg]
  rw [if_pos hw]
  exact wp_append_L E s x t e i z by_ ho ht hi hz hs1 hby hzs base v n xs hs hown u l hx hl hm hsz hbase h
theorem wpList_append_L {α : Type} (E : Cd α) {w : World} {ops : Array Oper} {rest : List Oper} {o : Oper} {a : Act} {Q : Exit → Act → World → Prop} (hgd : o.guard = none) (s x : Operand) (t e : TypeId) (i : TypeInfo) (z : Value) (by_ : Nat)
    (ho : o.op = .call { callee := .builtin .append, args := #[s, x], argTypes := #[t, t] })
    (ht : Try.prog.underlying t = some (.slice e)) (hi : Try.prog.info? e = some i) (hz : i.zero = some z) (hs1 : i.size = E.k) (hby : i.bytes = by_) (hzs : z.cells.size = E.k)
    (base : Nat) (v : Value) (n : Nat) (xs : List α) (hs : a.eval s = v) (hown : w.ownsRow base e E.k v n (flat E xs))
    (u : Value) (l : List α) (hx : a.eval x = u) (hl : IsL E w u l) (hm : n + l.length ≤ maxLen) (hsz : (n + l.length) * by_ ≤ 140737488355328) (hbase : base ≤ w.heap.size)
    (h : ∀ v' w', w'.ownsRow base e E.k v' (n + l.length) (flat E (xs ++ l)) → w.grownBy w' v.ownBlock → wpList Try.prog ops Q rest (a.put o.dst v') w') : wpList Try.prog ops Q (o :: rest) a w :=
  wpList_plain hgd fun _ hK => wp_append_L E s x t e i z by_ ho ht hi hz hs1 hby hzs base v n xs hs hown u l hx hl hm hsz hbase fun v' w' h2 h3 => hK _ _ (h v' w' h2 h3)
/-- a literal of one -/
theorem lit_one {α : Type} (E : Cd α) (W : World) (x : α) (T : TypeId) : IsL E (W.alloc (.cells (E.c x).toArray T)) (.slice (some ⟨W.heap.size, 0, none⟩) 1 1) [x] := by
  refine ⟨_, 1, rfl, Nat.le_refl _, Or.inr ⟨W.heap.size, 0, rfl, by simp, ?_⟩⟩
  intro j u hu
  rw [Nat.zero_add]
  refine (Blk.new W (E.c x).toArray T).cell j ?_
  have : flat E [x] = E.c x := by simp [flat]
  rw [this] at hu
  simpa using hu
theorem lit_one' {α : Type} (E : Cd α) (W : World) (o : Obj) (x : α) (T : TypeId) : IsL E ((W.alloc o).alloc (.cells (E.c x).toArray T)) (.slice (some ⟨W.heap.size + 1, 0, none⟩) 1 1) [x] := by
  have h := lit_one E (W.alloc o) x T
  rw [World.size_alloc] at h
  exact h
/-- an empty literal -/
theorem own_lit0 {α : Type} (E : Cd α) (W : World) (T : TypeId) (B : Nat) (hB : B ≤ W.heap.size) : (W.alloc (.cells #[] T)).ownsRow B T E.k (.slice (some ⟨W.heap.size, 0, none⟩) 0 0) 0 (flat E []) :=
  World.ownsRow_lit (base := B) (e := T) (size := E.k) W #[] 0 hB (by decide) (by simp)
theorem own_lit0' {α : Type} (E : Cd α) (W : World) (o : Obj) (T : TypeId) (B : Nat) (hB : B ≤ W.heap.size) : ((W.alloc o).alloc (.cells #[] T)).ownsRow B T E.k (.slice (some ⟨W.heap.size + 1, 0, none⟩) 0 0) 0 (flat E []) := by
  have h := own_lit0 E (W.alloc o) T B (by rw [World.size_alloc]; omega)
  rw [World.size_alloc] at h
  exact h
theorem IsL.grown {α : Type} {E : Cd α} {W W' : World} {r : Option Nat} {v : Value} {l : List α} (h : IsL E W v l) (g : W.grownBy W' r) (hr : ∀ b n c o s, v = .slice (some ⟨b, o, s⟩) n c → r ≠ some b) : IsL E W' v l := by
  obtain ⟨a, cap, rfl, hc, h0 | ⟨b, o, rfl, hb, hh⟩⟩ := h
  · exact ⟨a, cap, rfl, hc, .inl h0⟩
  · have hne := hr _ _ _ _ _ rfl
    have hk : W'.heap[b]? = W.heap[b]? := g.block b hb (fun e => hne e.symm)
    refine ⟨_, cap, rfl, hc, .inr ⟨b, o, rfl, ?_, ?_⟩⟩
    · rcases Nat.lt_or_ge b W'.heap.size with h | h
      · exact h
      · rw [Array.getElem?_eq_none h, Array.getElem?_eq_getElem hb] at hk; cases hk
    · intro j u hu
      exact (World.cell?_of_block hk).trans (hh j u hu)
end Go.Proofs.Ytcgafodaohmcmaa
