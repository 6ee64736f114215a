/-
  Names that were seen: a set of texts, in a block of its own.
-/
import Derived.Test.YtefojbfihnnpdaaDoorCtP
import Derived.Maps.OwnSet
import Derived.Maps.Views
import Derived.WalkKit
namespace Go.Proofs.YtefojbfihnnpdaaDoor
open Go.ChangeShapes Go.WideShapes Go.ChangeAt Go.RowKit Go.Maps
set_option linter.unusedVariables false
set_option linter.unusedSimpArgs false
set_option maxRecDepth 100000
set_option maxHeartbeats 1000000

theorem keyed9 : Keyed Tryd.prog 9 := string_keyed Tryd.underlying9
theorem zeroUnit (w : World) : (zeroValue 82).run Tryd.prog w = .ok (.agg #[]) w := by kernel_rfl
/-- these names were seen: the set lies in block b -/
structure Sn (w : World) (b : Nat) (l : List (List UInt8)) : Prop where
  out : w.ownsMap Tryd.prog 9 (unitElem (H := Unit)) b l.length (setOf (.agg []) (l.map Lit.string))
theorem Sn.alloc {w : World} {b : Nat} {l : List (List UInt8)} (h : Sn w b l) (o : Obj) : Sn (w.alloc o) b l := ⟨h.out.alloc o⟩
theorem Sn.lt {w : World} {b : Nat} {l : List (List UInt8)} (h : Sn w b l) : b < w.heap.size := h.out.lt
theorem Sn.fr {w w' : World} {b : Nat} {l : List (List UInt8)} (h : Sn w b l) (f : Fr w w') : Sn w' b l := by
  obtain ⟨es, clock, hb, r⟩ := h.out
  exact ⟨es, clock, (f.block b h.lt).trans hb, r⟩
theorem Sn.made (w : World) : Sn (w.alloc (.map #[] 0)) w.heap.size [] := ⟨World.ownsMap_made _ _ _ _⟩
theorem isKey_str (l : List (List UInt8)) : ∀ x ∈ l.map Lit.string, WideAt.IsKeyLit x := by
  intro x hx
  obtain ⟨y, _, rfl⟩ := List.mem_map.1 hx
  trivial
theorem has_seen (l : List (List UInt8)) (s : List UInt8) : Maps.has (setOf (H := Unit) (.agg []) (l.map Lit.string)) (.string s) = decide (s ∈ l) := by
  rw [has_setOf _ _ _ (isKey_str l), List.any_map]
  by_cases h : s ∈ l
  · rw [decide_eq_true h, List.any_eq_true]
    exact ⟨s, h, WideAt.sameKey_self (a := Lit.string s) trivial⟩
  · rw [decide_eq_false h, List.any_eq_false]
    intro x hx hh
    have := WideAt.sameKey_eq (a := Lit.string x) (b := Lit.string s) hh
    simp only [Lit.string.injEq] at this
    exact h (this ▸ hx)
theorem seenAdd_any (b : Nat) (l : List (List UInt8)) (s : ByteArray) (w : World) (h : Sn w b l) (hl : l.length ≤ 1000) (hs : s.size ≤ 140737488355327) :
    Calls Tryd.prog 35 #[.map (some b), .string s] w fun e w' => e = .returned (.bool (!decide (s.data.toList ∈ l))) ∧ Sn w' b (l ++ [s.data.toList]) ∧ w.grownBy w' (some b) := by
  have hown := h.out
  have hkey : keyOf Tryd.prog 9 (.string s) = some (.string s.data.toList) := WideMaps.keyOf_string_mk Tryd.underlying9 (by unfold maxLen; omega)
  have hh := has_seen l s.data.toList
  go_enter Tryd.func35, Tryd.ntmps35
  go_wp2_with (first
    | (at_lookup; refine wpList_lookup_own_unit _ rfl _ _ 69 rfl 9 82 keyed9 Tryd.underlying69 (zeroUnit _) b l.length _ rfl hown _ _ rfl hkey ?_)
    | (at_mapUpdate; refine wpList_mapUpdate_own _ rfl _ _ _ 69 rfl 9 82 keyed9 Tryd.underlying69 (unitElem (H := Unit)) b l.length _ rfl (hown.alloc _) (by unfold maxLen; omega) _ _ _ rfl rfl hkey _ [] unitElem_mk ?_; intro w1 hown1 hgrow1)
    | go_in)
  go_ret
  refine ⟨by rw [← hh]; rfl, ⟨?_⟩, (World.grownBy_alloc w _ _).trans hgrow1⟩
  rw [List.length_append, List.map_append]
  show w1.ownsMap Tryd.prog 9 (unitElem (H := Unit)) b (l.length + 1) (setOf (.agg []) (l.map Lit.string ++ [Lit.string s.data.toList]))
  rw [setOf_snoc]
  exact hown1
end Go.Proofs.YtefojbfihnnpdaaDoor
