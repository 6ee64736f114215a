/-
  What columns have, by their names: a map of the call's own; columnsOf of package eval.
-/
import Derived.Test.YtbcfdhimngoplaaGreatDoorEvB
import Derived.Maps.OwnSet
import Derived.Maps.Views
import Derived.WalkKit
namespace Go.Proofs.YtbcfdhimngoplaaGreatDoor
open Go.ChangeShapes Go.WideShapes Go.ChangeAt Go.RowKit Go.Maps
set_option linter.unusedVariables false
set_option linter.unusedSimpArgs false
set_option maxRecDepth 100000
set_option maxHeartbeats 2000000
def vdat (x : VM.Vl) : DataW Unit := .agg [.lit (.int .i64 x.k), .lit (.int .i64 x.n), .lit (.string x.s.data.toList)]
def valElem : Value → Option (DataW Unit × List MemPlace)
 | .agg cs => match cs.toList with
  | [.int .i64 k, .int .i64 n, .string s] => some (vdat ⟨k, n, s⟩, [])
  | _ => none
 | _ => none
theorem valElem_mk (x : VM.Vl) : valElem (.agg #[.int .i64 x.k, .int .i64 x.n, .string x.s]) = some (vdat x, []) := rfl
theorem vdat_inj {x y : VM.Vl} (h : vdat x = vdat y) : x = y := by
 obtain ⟨a, b, c⟩ := x
 obtain ⟨d, e, f⟩ := y
 simp only [vdat, DataW.agg.injEq, List.cons.injEq, DataW.lit.injEq, Lit.int.injEq, Lit.string.injEq] at h
 obtain ⟨⟨_, rfl⟩, ⟨_, rfl⟩, h3, _⟩ := h
 have : c = f := by
  cases c; cases f
  simp only at h3
  rw [Array.toList_inj.1 h3]
 rw [this]
theorem valElem_inv {v : Value} {x : VM.Vl} {ps : List MemPlace} (h : valElem v = some (vdat x, ps)) : v = .agg #[.int .i64 x.k, .int .i64 x.n, .string x.s] := by
 unfold valElem at h
 split at h
 ·
  rename_i cs
  split at h
  ·
   rename_i k n s hc
   simp only [Option.some.injEq, Prod.mk.injEq] at h
   have := vdat_inj h.1
   subst this
   have hcs : cs = #[.int .i64 k, .int .i64 n, .string s] := by
    apply Array.toList_inj.1
    rw [hc]
   rw [hcs]
  · cases h
 · cases h
theorem keyedS : Keyed Tryz.prog 9 := string_keyed Tryz.underlying9
theorem zeroVal (w : World) : (zeroValue 56).run Tryz.prog w = .ok (.agg #[.int .i64 0, .int .i64 0, .string ⟨#[]⟩]) w := by kernel_rfl
structure Mp (w : World) (b n : Nat) (f : List UInt8 → Option VM.Vl) : Prop where
 out : ∃ D : DataW Unit, IsMap D ∧ w.ownsMap Tryz.prog 9 valElem b n D ∧ (∀ s, Maps.has D (.string s) = (f s).isSome) ∧ (∀ s z, D.atKey (.string s) z = match f s with
  | some x => vdat x
  | none => z)
theorem Mp.lt {w : World} {b n : Nat} {f : List UInt8 → Option VM.Vl} (h : Mp w b n f) : b < w.heap.size := by
 obtain ⟨D, _, h2, _⟩ := h.out
 exact h2.lt
theorem Mp.fr {w w' : World} {b n : Nat} {f : List UInt8 → Option VM.Vl} (h : Mp w b n f) (g : Fr w w') : Mp w' b n f := by
 have hl := h.lt
 obtain ⟨D, h1, ⟨es, clock, hb, r⟩, h3⟩ := h.out
 exact ⟨D, h1, ⟨es, clock, (g.block b hl).trans hb, r⟩, h3⟩
theorem Mp.made (w : World) : Mp (w.alloc (.map #[] 0)) w.heap.size 0 (fun _ => none) := by
 have h := World.ownsMap_made (H := Unit) w Tryz.prog 9 valElem
 exact ⟨_, ⟨_, rfl⟩, h, fun s => rfl, fun s z => rfl⟩
theorem str_key (s : ByteArray) (hs : s.size ≤ 140737488355327) : keyOf Tryz.prog 9 (.string s) = some (.string s.data.toList) := WideMaps.keyOf_string_mk Tryz.underlying9 (by unfold maxLen; omega)
def more (f : List UInt8 → Option VM.Vl) (s : List UInt8) (x : VM.Vl) : List UInt8 → Option VM.Vl := fun t => if t = s then some x else f t
theorem wp_lookup_Mp {w : World} {ops : Array Oper} {rest : List Oper} {o : Oper} {a : Act} {Q : Exit → Act → World → Prop} (hg : o.guard = none) (m x : Operand) (hop : o.op = Op.lookup 118 m x true)
  (b n : Nat) (f : List UInt8 → Option VM.Vl) (hm : a.eval m = .map (some b)) (hown : Mp w b n f) (s : ByteArray) (hx : a.eval x = .string s) (hs : s.size ≤ 140737488355327)
  (hK : wpList Tryz.prog ops Q rest (a.put o.dst (.tuple #[vlV ((f s.data.toList).getD EX.nul), .bool (f s.data.toList).isSome])) w) : wpList Tryz.prog ops Q (o :: rest) a w := by
 obtain ⟨D, h1, h2, h3, h4⟩ := hown.out
 refine wpList_lookup_own_ok w hg m x 118 hop 9 56 keyedS Tryz.underlying118 valElem (zeroVal w) (vdat EX.nul) [] rfl b n D hm h2 (.string s) (.string s.data.toList) hx (str_key s hs) ?_
 intro v ps hv
 rw [h3]
 rw [h4] at hv
 have : v = vlV ((f s.data.toList).getD EX.nul) := by
  cases hf : f s.data.toList with
  | none => rw [hf] at hv; exact valElem_inv hv
  | some y => rw [hf] at hv; exact valElem_inv hv
 rw [this]
 exact hK
end Go.Proofs.YtbcfdhimngoplaaGreatDoor
