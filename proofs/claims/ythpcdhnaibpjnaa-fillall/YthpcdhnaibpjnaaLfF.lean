/-
  slices.Clone of a row of values; lists of entries in memory.
-/
import Derived.Test.YthpcdhnaibpjnaaLfT
import Derived.Maps.AppendAt
namespace Go.Proofs.Ythpcdhnaibpjnaa
open Go.ChangeShapes Go.WideShapes Go.ChangeAt Go.RowKit Go.Shelf
set_option linter.unusedVariables false
set_option linter.unusedSimpArgs false
set_option maxRecDepth 100000

theorem add_at (a : Addr) (n : Nat) (h : a.spot = none) : a.add n = ⟨a.block, a.off + n, none⟩ := by
  obtain ⟨b, o, s⟩ := a
  simp only at h
  subst h
  unfold Addr.add
  split
  · rename_i h0; subst h0; rfl
  · rfl
theorem rowV_one (l : List VM.Vl) : ∀ u ∈ rowV l, u.oneCell' = true := by
  intro u hu
  simp only [rowV, List.mem_flatMap] at hu
  obtain ⟨x, _, hx⟩ := hu
  simp at hx
  rcases hx with rfl | rfl | rfl <;> rfl
theorem row_news {w : World} {b o : Nat} {l : List VM.Vl} (h : CellsAt w b o l) : ∀ j u, (rowV l)[j]? = some u → w.cell? ⟨b, o + j, none⟩ = some u := by
  intro j u hu
  have hj : j < l.length * 3 := by
    have := (List.getElem?_eq_some_iff.1 hu).1
    rwa [rowV_len] at this
  have hi : j / 3 < l.length := by omega
  obtain ⟨e0, e1, e2⟩ := rowV_get l (j / 3) hi
  obtain ⟨c0, c1, c2⟩ := h (j / 3) hi
  have hm : j = j / 3 * 3 ∨ j = j / 3 * 3 + 1 ∨ j = j / 3 * 3 + 2 := by omega
  rcases hm with hm | hm | hm
  · rw [hm] at hu ⊢
    rw [e0] at hu
    rw [c0, hu]
  · rw [hm, e1] at hu
    rw [hm, ← Nat.add_assoc, c1, hu]
  · rw [hm, e2] at hu
    rw [hm, ← Nat.add_assoc, c2, hu]

set_option maxHeartbeats 2000000 in
theorem clone_empty (A : Addr) (c : Nat) (w : World) :
    Calls Try.prog 37 #[.slice (some A) 0 c] w fun e w' => ∃ v', e = .returned v' ∧ Fr w w' ∧ IsRowB w.heap.size w' v' [] := by
  obtain ⟨i0, hi, hz0, hz1, hz2⟩ := info_parts Try.infoVal
  have q28 : ∀ (w : World) (a : Option Addr) (n c n' c' : Nat), (binOp .eql 41 (.slice a n c) (.slice none n' c')).run Try.prog w = .ok (.bool a.isNone) w := fun w a n c n' c' => Lib.run_eql_slice_nil w _ _ a n c n' c' Try.underlying41
  go_enter Try.func37, Try.ntmps37
  go_wp2_with (at_builtin; refine wpList_append_own _ rfl _ _ 41 rfl w.heap.size 66 i0 (.agg #[.int .i64 0, .int .i64 0, .string ⟨#[]⟩]) 3 32 Try.underlying41 hi hz0 hz1 hz2 rfl (by decide) _ _ _ rfl (World.ownsRow_made w #[] 0 (Nat.le_refl _) (Nat.zero_le _) (by simp)) A 0 c [] rfl ?qc1 ?qc2 ?qc3 ?qc4 ?qc5 ?qc6 ?_)
  case qc1 => rfl
  case qc2 => intro j u hj; simp at hj
  case qc3 => intro u hu; simp at hu
  case qc4 => unfold maxLen; omega
  case qc5 => omega
  case qc6 => simp
  intro v' w1 hown hgrow hnil
  have HO := hideP hown
  have HB : Hid (Fr w w1) := ((RowKit.Below.refl _ w).alloc (Nat.le_refl _) _).grown hgrow (by simp) (by intro k hk; simp [Value.ownBlock] at hk; omega)
  clear hown hnil hgrow
  go_wp2_with fail
  go_ret
  refine ⟨v', rfl, HB.out, ?_⟩
  rcases HO.out.2 with ⟨h1, h2⟩ | ⟨g, cap', cur, h1, h2, h3, h4, h5, h6, h7⟩
  · exact ⟨none, 0, h1, Or.inl rfl⟩
  · exact ⟨_, cap', by simpa using h1, Or.inl rfl⟩
/-- what Clone answers of a row -/
theorem clone_any (v : Value) (l : List VM.Vl) (w : World) (hr : IsRow w v l) (hl : l.length ≤ 40) :
    Calls Try.prog 37 #[v] w fun e w' => ∃ v', e = .returned v' ∧ Fr w w' ∧ IsRowB w.heap.size w' v' l := by
  obtain ⟨i0, hi, hz0, hz1, hz2⟩ := info_parts Try.infoVal
  obtain ⟨a, cap, rfl, hcs⟩ := hr
  by_cases h0 : l = []
  · subst h0
    cases a with
    | none =>
      refine (AnyE.slices_Clone_nil Try.cloneL _ _ w).mono ?_
      rintro _ w' ⟨rfl, rfl⟩
      exact ⟨_, rfl, Fr.refl _, ⟨none, 0, rfl, Or.inl rfl⟩⟩
    | some A => exact clone_empty A cap w
  · rcases hcs with h | ⟨b, o, rfl, _, hcc⟩
    · exact absurd h h0
    have hc := row_news hcc
    refine (AnyE.slices_Clone Try.cloneL i0 (.agg #[.int .i64 0, .int .i64 0, .string ⟨#[]⟩]) 3 32 hi hz0 hz1 hz2 rfl (by decide) Try.sizeOf66 b o l.length cap (rowV l) w (rowV_len l) (by unfold maxLen; omega) (by omega) hc (rowV_one l)).mono ?_
    rintro _ w' ⟨v', rfl, hown, hne, hb⟩
    exact ⟨v', rfl, hb, Ov.row hown⟩

/-- lists of entries that the call owns: those that are done, and the last one -/
structure Ol (B : Nat) (v : Value) (is : List (List Ev × Value)) (last : List Ev) (lv : Value) (w : World) : Prop where
  own : w.ownsRow B 22 1 v (is.length + 1) (is.map (·.2) ++ [lv])
  each : ∀ p ∈ is, Oe B p.2 p.1 w
  last : Oe B lv last w
  apart : ∀ p ∈ is, ∀ g, lv.ownBlock = some g → p.2.ownBlock ≠ some g
/-- blocks of lists, entries and values are as they were -/
theorem Oe.keep {B : Nat} {v : Value} {l : List Ev} {w w' : World} (h : Oe B v l w) (h1 : ∀ g, v.ownBlock = some g → w'.heap[g]? = w.heap[g]?) (h2 : ∀ (k : Nat) (cur : Array Value), w.heap[k]? = some (.cells cur 66 (0, 0)) → w'.heap[k]? = w.heap[k]?) : Oe B v l w' := by
  refine ⟨⟨h.own.1, ?_⟩, fun p hp => (h.rows p hp).keep h2⟩
  rcases h.own.2 with h0 | ⟨g, cap, cur, e1, e2, e3, e4⟩
  · exact Or.inl h0
  · exact Or.inr ⟨g, cap, cur, e1, e2, (h1 g (by rw [e1]; rfl)).trans e3, e4⟩
theorem Oe.ty {B : Nat} {v : Value} {l : List Ev} {w : World} (h : Oe B v l w) : ∀ g, v.ownBlock = some g → ∃ cur, w.heap[g]? = some (.cells cur 43 (0, 0)) := own_block h.own
theorem ne_ty {w : World} {k g : Nat} {c1 c2 : Array Value} {T1 T2 : TypeId} (hT : T1 ≠ T2) (h1 : w.heap[k]? = some (.cells c1 T1 (0, 0))) (h2 : w.heap[g]? = some (.cells c2 T2 (0, 0))) : k ≠ g := by
  intro e
  subst e
  rw [h1] at h2
  simp only [Option.some.injEq, Obj.cells.injEq] at h2
  exact hT h2.2.1
theorem Oe.grownT {B : Nat} {v : Value} {l : List Ev} {w w' : World} {r : Option Nat} {T : TypeId} (h : Oe B v l w) (hT : T ≠ 43) (hV : T ≠ 66) (hr : ∀ g, r = some g → ∃ cur, w.heap[g]? = some (.cells cur T (0, 0))) (hg : w.grownBy w' r) : Oe B v l w' := by
  refine h.keep ?_ ?_
  · intro g hgv
    obtain ⟨cur, hc⟩ := h.ty g hgv
    refine hg.block g (Array.getElem?_eq_some_iff.1 hc).1 ?_
    intro e
    obtain ⟨c2, h2⟩ := hr g e.symm
    exact ne_ty hT h2 hc rfl
  · intro k cur hk
    refine hg.block k (Array.getElem?_eq_some_iff.1 hk).1 ?_
    intro e
    obtain ⟨c2, h2⟩ := hr k e.symm
    exact ne_ty hV h2 hk rfl
theorem Ol.fr {B : Nat} {v lv : Value} {is : List (List Ev × Value)} {last : List Ev} {w w' : World} (h : Ol B v is last lv w) (f : Fr w w') : Ol B v is last lv w' :=
  ⟨own_keep h.own fun k cur _ hk => f.block k (Array.getElem?_eq_some_iff.1 hk).1, fun p hp => (h.each p hp).fr f, h.last.fr f, h.apart⟩
/-- no list yet, or some -/
def Os2 (B : Nat) (v : Value) (ps : List (List Ev)) (w : World) : Prop :=
  (v = .slice none 0 0 ∧ ps = []) ∨ ∃ is last lv, ps = is.map (·.1) ++ [last] ∧ Ol B v is last lv w
/-- a new list, with nothing in it -/
theorem Os2.begin {B : Nat} {v v' : Value} {ps : List (List Ev)} {vs : List Value} {w w' : World} (h : Os2 B v ps w) (hv : w.ownsRow B 22 1 v ps.length vs) (ho : w'.ownsRow B 22 1 v' (ps.length + 1) (vs ++ [.slice none 0 0])) (hg : w.grownBy w' v.ownBlock) :
    ∃ is, ps = is.map (·.1) ∧ Ol B v' is [] (.slice none 0 0) w' := by
  have hb := own_block hv
  rcases h with ⟨rfl, rfl⟩ | ⟨is, last, lv, rfl, h⟩
  · have hvs : vs = [] := List.eq_nil_of_length_eq_zero (by simpa using hv.1)
    subst hvs
    exact ⟨[], rfl, ⟨ho, fun p hp => by simp at hp, Oe.nil _ _, fun p hp => by simp at hp⟩⟩
  · refine ⟨is ++ [(last, lv)], by simp, ⟨?_, ?_, Oe.nil _ _, ?_⟩⟩
    · have hvs : vs = is.map (·.2) ++ [lv] := by
        have e1 := h.own.2
        have e2 := hv.2
        rcases e1 with ⟨rfl, e⟩ | ⟨g, cap, cur, rfl, _, h3, _, _, _, h7⟩
        · omega
        · rcases e2 with ⟨e, _⟩ | ⟨g', cap', cur', e, _, h3', _, _, _, h7'⟩
          · cases e
          · simp only [Value.slice.injEq, Option.some.injEq, Addr.mk.injEq, and_true] at e
            obtain ⟨rfl, e2, rfl⟩ := e
            rw [h3] at h3'
            simp only [Option.some.injEq, Obj.cells.injEq] at h3'
            obtain ⟨rfl, _⟩ := h3'
            rw [← h7, ← h7']
            rw [e2]
      rw [hvs] at ho
      simpa using ho
    · intro p hp
      rw [List.mem_append, List.mem_singleton] at hp
      rcases hp with hp | rfl
      · exact (h.each p hp).grownT (T := 22) (by decide) (by decide) hb hg
      · exact h.last.grownT (T := 22) (by decide) (by decide) hb hg
    · intro p _ g hg
      cases hg
end Go.Proofs.Ythpcdhnaibpjnaa
