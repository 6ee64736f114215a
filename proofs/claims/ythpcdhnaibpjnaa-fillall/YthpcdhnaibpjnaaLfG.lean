/-
  What Fill of package leaf answers, for every list of entries.
-/
import Derived.Test.YthpcdhnaibpjnaaLfF
import Derived.Test.YthpcdhnaibpjnaaLfFM
import Derived.Test.YthpcdhnaibpjnaaLfPk
namespace Go.Proofs.Ythpcdhnaibpjnaa
open Go.ChangeShapes Go.WideShapes Go.ChangeAt Go.RowKit Go.Shelf
set_option linter.unusedVariables false
set_option linter.unusedSimpArgs false
set_option maxRecDepth 100000

theorem step_append_own_at {P : Program} {ops : Array Oper} {o : Oper} {a : Act} {w : World} {K : Act → World → Prop} {Q : Exit → Act → World → Prop} {E : Prop}
    (hg : o.guard = none) (s x : Operand) (t : TypeId) (hop : o.op = Op.call { callee := Callee.builtin Builtin.append, args := #[s, x], argTypes := #[t, t] })
    (base : Nat) (e : TypeId) (i : TypeInfo) (z : Value) (size bytes : Nat) (ht : P.underlying t = some (.slice e)) (hi : P.info? e = some i) (hz : i.zero = some z)
    (hsize : i.size = size) (hby : i.bytes = bytes) (hzs : z.cells.size = size) (hsz : 0 < size)
    (v : Value) (n : Nat) (xs : List Value) (hs : a.eval s = v) (hown : w.ownsRow base e size v n xs)
    (ad : Addr) (m c : Nat) (news : List Value) (hx : a.eval x = .slice (some ad) m c) (hl : news.length = m * size) (hnews : ∀ j u, news[j]? = some u → w.cell? (ad.add j) = some u) (h1 : ∀ u ∈ news, u.oneCell' = true)
    (h63 : n + m ≤ maxLen) (hbytes : (n + m) * bytes ≤ 140737488355328) (hbase : base ≤ w.heap.size)
    (hK : ∀ v' w', w'.ownsRow base e size v' (n + m) (xs ++ news) → w.grownBy w' v.ownBlock → (v'.ownBlock = v.ownBlock ∨ v'.ownBlock = some w.heap.size) → K (a.put o.dst v') w') :
    if Region.wanted o (yielded ops a.tmps) = true then Oper.wp P o a w K Q else E := by
  have hw : Region.wanted o (yielded ops a.tmps) = true := by simp [Region.wanted, hg]
  rw [if_pos hw]
  obtain ⟨v', w', hr, h2, h3, h4, h5⟩ := run_append_own_at (P := P) w base t o.type e i z size bytes ht hi hz hsize hby hzs hsz v n xs hown ad m c news hl hnews h1 h63 hbytes hbase
  unfold Oper.wp execOp
  simp only [hop, resolve, invoke, builtin, Sem.run_bind, Sem.run_pure, Result.andThen_ok, List.map_toArray, List.map_cons, List.map_nil, hs, hx, hr]
  exact hK _ _ h2 h3 h5

def mp (ps : List (List Ev)) : List (List LF.En) := ps.map (·.map (·.1))
/-- the last list's cell -/
theorem Ol.cell {B : Nat} {v lv : Value} {is : List (List Ev × Value)} {last : List Ev} {w : World} (h : Ol B v is last lv w) :
    ∃ g cap cur, v = .slice (some ⟨g, 0, none⟩) (is.length + 1) cap ∧ B ≤ g ∧ w.heap[g]? = some (.cells cur 22 (0, 0)) ∧ w.cell? ⟨g, is.length, none⟩ = some lv := by
  rcases h.own.2 with ⟨_, h0⟩ | ⟨g, cap, cur, e1, e2, e3, e4, e5, e6, e7⟩
  · omega
  · refine ⟨g, cap, cur, e1, e2, e3, ?_⟩
    rw [Lib.cell_of_heap e3]
    have : (is.map (·.2) ++ [lv])[is.length]? = some lv := by simp
    rw [← e7, List.getElem?_take] at this
    split at this
    · rw [← this, Array.getElem?_toList]
    · cases this
/-- the last list has an entry more: appended, then stored -/
theorem Ol.grow {B : Nat} {v lv v' : Value} {is : List (List Ev × Value)} {last : List Ev} {p : Ev} {w w' : World} {g cap : Nat} {cur : Array Value} (h : Ol B v is last lv w) (hB : B ≤ w.heap.size)
    (hp : IsRowB 0 w p.2 p.1.2) (ho : w'.ownsRow B 43 2 v' (last.length + 1) (esV last ++ evC p)) (hg : w.grownBy w' lv.ownBlock) (hat : v'.ownBlock = lv.ownBlock ∨ v'.ownBlock = some w.heap.size)
    (hv : v = .slice (some ⟨g, 0, none⟩) (is.length + 1) cap) (hc : w.heap[g]? = some (.cells cur 22 (0, 0))) :
    Ol B v is (last ++ [p]) v' (w'.setCell ⟨g, is.length, none⟩ v') := by
  have hb := own_block h.last.own
  have hne : ∀ k, lv.ownBlock = some k → k ≠ g := fun k hk => by
    obtain ⟨c2, h2⟩ := hb k hk
    exact ne_ty (by decide) h2 hc
  have hg' : w'.heap[g]? = some (.cells cur 22 (0, 0)) := (hg.block g (Array.getElem?_eq_some_iff.1 hc).1 (fun e => hne g e.symm rfl)).trans hc
  have hoe : Oe B v' (last ++ [p]) w' := Oe.snoc h.last hp ho hg
  have hkeep : ∀ {u : Value} {l : List Ev}, Oe B u l w' → Oe B u l (w'.setCell ⟨g, is.length, none⟩ v') := by
    intro u l hu
    refine hu.keep ?_ ?_
    · intro k hk
      obtain ⟨c2, h2⟩ := hu.ty k hk
      exact Below.heap_setCell _ _ _ _ (by simpa using ne_ty (T1 := 43) (T2 := 22) (by decide) h2 hg')
    · intro k c2 hk
      exact Below.heap_setCell _ _ _ _ (by simpa using ne_ty (T1 := 66) (T2 := 22) (by decide) hk hg')
  refine ⟨⟨by simp, ?_⟩, ?_, hkeep hoe, ?_⟩
  · rcases h.own.2 with ⟨_, h0⟩ | ⟨g', cap', cur', e1, e2, e3, e4, e5, e6, e7⟩
    · omega
    · rw [hv] at e1
      simp only [Value.slice.injEq, Option.some.injEq, Addr.mk.injEq, and_true, true_and] at e1
      obtain ⟨rfl, rfl⟩ := e1
      rw [hc] at e3
      simp only [Option.some.injEq, Obj.cells.injEq] at e3
      obtain ⟨rfl, _⟩ := e3
      refine Or.inr ⟨g, cap, cur.setIfInBounds is.length v', hv, e2, ?_, e4, e5, by simpa using e6, ?_⟩
      · simp only [World.setCell, Array.getElem?_modify, if_pos, hg']
        rfl
      · rw [Array.toList_setIfInBounds]
        have hl : (is.map (·.2)).length = is.length := by simp
        apply List.ext_getElem?
        intro j
        have hj := congrArg (fun l => l[j]?) e7
        simp only [List.getElem?_take, List.getElem?_set] at hj ⊢
        by_cases h1 : j < (is.length + 1) * 1
        · rw [if_pos h1] at hj ⊢
          by_cases h2 : is.length = j
          · subst h2
            have e8 : cur.toList.length = cur.size := Array.length_toList
            have hlt3 : is.length < cur.toList.length := by omega
            rw [if_pos rfl, if_pos hlt3]
            simp
          · have hj3 : j < (is.map (·.2)).length := by rw [hl]; omega
            rw [if_neg h2, hj, List.getElem?_append_left hj3, List.getElem?_append_left hj3]
        · rw [if_neg h1]
          rw [List.getElem?_eq_none]
          simp
          omega
  · intro q hq
    refine hkeep ?_
    have hq0 := h.each q hq
    refine hq0.keep ?_ ?_
    · intro k hk
      obtain ⟨c2, h2⟩ := hq0.ty k hk
      refine hg.block k (Array.getElem?_eq_some_iff.1 h2).1 ?_
      intro e
      exact h.apart q hq k e.symm hk
    · intro k c2 hk
      refine hg.block k (Array.getElem?_eq_some_iff.1 hk).1 ?_
      intro e
      obtain ⟨c3, h3⟩ := hb k e.symm
      exact ne_ty (T1 := 43) (T2 := 66) (by decide) h3 hk rfl
  · intro q hq k hk
    rcases hat with hat | hat
    · exact h.apart q hq k (hat ▸ hk)
    · rw [hat] at hk
      simp only [Option.some.injEq] at hk
      subst hk
      intro e
      obtain ⟨c2, h2⟩ := (h.each q hq).ty _ e
      exact absurd (Array.getElem?_eq_some_iff.1 h2).1 (by omega)
end Go.Proofs.Ythpcdhnaibpjnaa
