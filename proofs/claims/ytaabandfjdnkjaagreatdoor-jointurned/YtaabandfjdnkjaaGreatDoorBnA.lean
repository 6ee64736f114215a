/-
  One of a list's rows changed for another one of the call's own.
-/
import Derived.Test.YtaabandfjdnkjaaGreatDoorGqF
import Derived.Test.YtaabandfjdnkjaaGreatDoorBlC
namespace Go.Proofs.YtaabandfjdnkjaaGreatDoor
open Go.ChangeShapes Go.WideShapes Go.ChangeAt Go.RowKit
set_option linter.unusedVariables false
set_option linter.unusedSimpArgs false
set_option maxRecDepth 100000
theorem setCell_grown (w : World) (g i : Nat) (u : Value) : w.grownBy (w.setCell ⟨g, i, none⟩ u) (some g) := ⟨rfl, rfl, rfl, by simp [World.setCell], fun k _ hk => Below.heap_setCell _ _ _ _ (fun e => hk (by rw [e]))⟩
theorem own_put {B n c i : Nat} {a : Option Addr} {T : TypeId} {xs : List Value} {w : World} {u : Value} (h : w.ownsRow B T 1 (.slice a n c) n xs) (hi : i < n) :
  ∃ g cur, a = some ⟨g, 0, none⟩ ∧ B ≤ g ∧ Blk w g cur T ∧ (w.setCell ⟨g, i, none⟩ u).ownsRow B T 1 (.slice a n c) n (xs.set i u) := by
 obtain ⟨h1, h2⟩ := h
 rcases h2 with ⟨h, _⟩ | ⟨g, cap, cur, e, hB, hg, hn, hm, hs, ht⟩
 · cases h; omega
 ·
  cases e
  have hb : Blk w g cur T := hg
  refine ⟨g, cur, rfl, hB, hb, by rw [List.length_set]; exact h1, .inr ⟨g, c, cur.setIfInBounds i u, rfl, hB, hb.set i u, hn, hm, by rw [Array.size_setIfInBounds]; exact hs, ?_⟩⟩
  rw [Array.toList_setIfInBounds, List.take_set, ht]
theorem flat_cdS (qs : List Sq) : flat cdS qs = qs.map fun q => Value.slice q.a q.n q.c := by
 induction qs with
 | nil => rfl
 | cons q t ih => rw [flat_cons, ih]; rfl
theorem ORR.put {B n c i : Nat} {a : Option Addr} {w : World} {ls : List (List VM.Vl)} {x : Sq} {r : List VM.Vl} (h : ORR B w (.slice a n c) ls) (hi : i < ls.length) (hx : w.ownsRow B 26 3 x.v r.length (flat cdV r)) :
  ∃ g, a = some ⟨g, 0, none⟩ ∧ B ≤ g ∧ (∃ u, w.cell? ⟨g, i, none⟩ = some u) ∧ w.frozen? ⟨g, i, none⟩ = false ∧ ORR B (w.setCell ⟨g, i, none⟩ x.v) (.slice a n c) (ls.set i r) := by
 obtain ⟨qs, h1, h2, h3⟩ := h
 have hn : n = ls.length := by
  rcases h1.2 with ⟨e, _⟩ | ⟨g, cap, cur, e, _⟩
  ·
   have := h1.1
   cases e
   rcases h1 with ⟨z1, z2⟩
   rcases z2 with ⟨_, z3⟩ | ⟨_, _, _, e, _⟩
   · rw [z3] at z1; simp at z1; omega
   · cases e
  · cases e; rfl
 subst hn
 obtain ⟨g, cur, rfl, hB, hb, ho⟩ := own_put (u := x.v) h1 hi
 have hg := setCell_grown w g i x.v
 have hty : ∀ k, some g = some k → ∃ cur, w.heap[k]? = some (.cells cur 42 (0, 0)) := fun k e => by cases e; exact ⟨_, hb⟩
 refine ⟨g, rfl, hB, ?_, hb.frozen i, qs.set i x, ?_, by simp [h2], fun j j1 j2 => ?_⟩
 ·
  have hc : i < qs.length := by omega
  have hsz : i < cur.size := by
   rcases h1.2 with ⟨e, _⟩ | ⟨g', cap, cur', e, _, hg', hn', _, hs', _⟩
   · cases e
   ·
    cases e
    have : cur' = cur := by
     have z : Blk w g cur' 42 := hg'
     unfold Blk at z hb
     rw [z] at hb
     simp only [Option.some.injEq, Obj.cells.injEq] at hb
     exact hb.1
    subst this
    omega
  exact ⟨cur[i], hb.cell i (Array.getElem?_eq_getElem hsz)⟩
 ·
  rw [List.length_set, flat_cdS, List.map_set, ← flat_cdS]
  exact ho
 ·
  rw [List.getElem_set, List.getElem_set]
  by_cases e : i = j
  ·
   rw [if_pos e, if_pos e]
   exact own_grownT hx (by decide) hty hg
  ·
   rw [if_neg e, if_neg e]
   exact own_grownT (h3 j (by simpa using j1) (by simpa using j2)) (by decide) hty hg
theorem jn_both {a b : List (List VM.Vl)} : (∃ c d, BG.jn a b = .error c ∧ BG.jn b a = .error d) ∨ (BG.jn a b = .ok (BM.join a b) ∧ BG.jn b a = .ok (BM.join b a) ∧ BG.chk a = 0 ∧ BG.chk b = 0 ∧ a.length * b.length ≤ 40) := by
 unfold BG.jn
 by_cases h1 : BG.chk a = 0
 ·
  by_cases h2 : BG.chk b = 0
  ·
   by_cases h3 : 8 < BG.wd a + BG.wd b ∨ 40 < a.length * b.length
   ·
    left
    refine ⟨2, 2, ?_, ?_⟩
    · rw [if_neg (by simp [h1]), if_neg (by simp [h2]), if_pos h3]
    · rw [if_neg (by simp [h2]), if_neg (by simp [h1]), if_pos (by rw [Nat.add_comm, Nat.mul_comm]; exact h3)]
   ·
    right
    refine ⟨?_, ?_, h1, h2, by omega⟩
    · rw [if_neg (by simp [h1]), if_neg (by simp [h2]), if_neg h3]
    · rw [if_neg (by simp [h2]), if_neg (by simp [h1]), if_neg (by rw [Nat.add_comm, Nat.mul_comm]; exact h3)]
  ·
   left
   refine ⟨BG.chk b, BG.chk b, ?_, ?_⟩
   · rw [if_neg (by simp [h1]), if_pos h2]
   · rw [if_pos h2]
 ·
  left
  by_cases h2 : BG.chk b = 0
  · exact ⟨BG.chk a, BG.chk a, by rw [if_pos h1], by rw [if_neg (by simp [h2]), if_pos h1]⟩
  · exact ⟨BG.chk a, BG.chk b, by rw [if_pos h1], by rw [if_pos h2]⟩
end Go.Proofs.YtaabandfjdnkjaaGreatDoor
