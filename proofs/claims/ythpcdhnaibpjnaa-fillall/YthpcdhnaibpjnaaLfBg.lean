/-
  The examples that the statements on entries hold first are met.
-/
import Derived.Test.YthpcdhnaibpjnaaLfH
import Derived.Test.YthpcdhnaibpjnaaSameE
namespace Go.Proofs.Ythpcdhnaibpjnaa
open Go.ChangeShapes Go.WideShapes Go.ChangeAt Go.RowKit
set_option linter.unusedVariables false
set_option linter.unusedSimpArgs false
set_option maxRecDepth 100000

set_option maxHeartbeats 1000000 in
theorem vInt_any (n : Int) (w : World) : Calls Try.prog 34 #[.int .i64 n] w fun e w' => e = .returned (.agg #[.int .i64 1, .int .i64 n, .string ⟨#[]⟩]) ∧ Fr w w' := by
  go_enter Try.func34, Try.ntmps34
  go_wp2
  refine bodyPost_ret (v := .agg #[.int .i64 1, .int .i64 n, .string ⟨#[]⟩]) (by simp [results, Try.results34, go_sem]) rfl ?_
  exact ⟨rfl, (Fr.refl _).alloc _⟩
set_option maxHeartbeats 1000000 in
theorem vText_any (s : ByteArray) (w : World) : Calls Try.prog 35 #[.string s] w fun e w' => e = .returned (.agg #[.int .i64 2, .int .i64 0, .string s]) ∧ Fr w w' := by
  go_enter Try.func35, Try.ntmps35
  go_wp2
  refine bodyPost_ret (v := .agg #[.int .i64 2, .int .i64 0, .string s]) (by simp [results, Try.results35, go_sem]) rfl ?_
  exact ⟨rfl, (Fr.refl _).alloc _⟩
set_option maxHeartbeats 1000000 in
theorem entry_any (n : Int) (a : Option Addr) (k c : Nat) (w : World) : Calls Try.prog 33 #[.int .i64 n, .slice a k c] w fun e w' => e = .returned (.agg #[.int .i64 n, .slice a k c]) ∧ Fr w w' := by
  go_enter Try.func33, Try.ntmps33
  go_wp2
  refine bodyPost_ret (v := .agg #[.int .i64 n, .slice a k c]) (by simp [results, Try.results33, go_sem]) rfl ?_
  exact ⟨rfl, (Fr.refl _).alloc _⟩
theorem entries_any (v : Value) (w : World) : Calls Try.prog 32 #[v] w fun e w' => e = .returned v ∧ Fr w w' := by
  go_enter Try.func32, Try.ntmps32
  go_wp2
  go_ret
  exact ⟨rfl, Fr.refl _⟩
theorem lit_row (W : World) (l : List VM.Vl) : IsRow (W.alloc (.cells (rowV l).toArray 66)) (.slice (some ⟨W.heap.size, 0, none⟩) l.length l.length) l := by
  refine ⟨_, _, rfl, Or.inr ⟨W.heap.size, 0, rfl, by simp, ?_⟩⟩
  intro i hi
  obtain ⟨a, b, c⟩ := rowV_get l i hi
  have h3 := alloc_heap W (.cells (rowV l).toArray 66)
  have key : ∀ j u, (rowV l)[j]? = some u → (W.alloc (.cells (rowV l).toArray 66)).cell? ⟨W.heap.size, 0 + j, none⟩ = some u := by
    intro j u hu
    rw [Nat.zero_add, Lib.cell_of_heap h3]
    simpa using hu
  exact ⟨key _ _ a, key _ _ b, key _ _ c⟩
/-- two entries in a slice that is written out -/
theorem lit_ens (W : World) (i j : Int) (u v : Value) (r s : List VM.Vl) (hu : IsRow W u r) (hv : IsRow W v s) : IsEn (W.alloc (.cells #[.int .i64 i, u, .int .i64 j, v] 43)) (.slice (some ⟨W.heap.size, 0, none⟩) 2 2) [(i, r), (j, s)] := by
  have h3 := alloc_heap W (.cells #[.int .i64 i, u, .int .i64 j, v] 43)
  have hf : Fr W (W.alloc (.cells #[.int .i64 i, u, .int .i64 j, v] 43)) := (Fr.refl W).alloc _
  refine ⟨_, _, rfl, Or.inr ⟨W.heap.size, 0, rfl, (Array.getElem?_eq_some_iff.1 h3).1, ?_⟩⟩
  intro k hk
  match k, hk with
  | 0, _ => exact ⟨(Lib.cell_of_heap h3 0).trans rfl, u, (Lib.cell_of_heap h3 1).trans rfl, hu.fr hf⟩
  | 1, _ => exact ⟨(Lib.cell_of_heap h3 2).trans rfl, v, (Lib.cell_of_heap h3 3).trans rfl, hv.fr hf⟩

/-- lists of entries as plain lists -/
def IsLs (w : World) (u : Value) (L : List (List LF.En)) : Prop :=
  ∃ (a : Option Addr) (cap : Nat), u = .slice a L.length cap ∧ (L = [] ∨ ∃ b o, a = some ⟨b, o, none⟩ ∧ b < w.heap.size ∧ ∀ i (h : i < L.length), ∃ v, w.cell? ⟨b, o + i, none⟩ = some v ∧ IsEn w v L[i])
theorem IsLs.fr {w w' : World} {u : Value} {L : List (List LF.En)} (h : IsLs w u L) (f : Fr w w') : IsLs w' u L := by
  obtain ⟨a, cap, rfl, h0 | ⟨b, o, rfl, hb, hc⟩⟩ := h
  · exact ⟨a, cap, rfl, Or.inl h0⟩
  · refine ⟨_, cap, rfl, Or.inr ⟨b, o, rfl, Nat.lt_of_lt_of_le hb f.size, ?_⟩⟩
    intro i hi
    obtain ⟨v, h1, h2⟩ := hc i hi
    exact ⟨v, (Below.cell f hb).trans h1, h2.fr f⟩
theorem Os2.ls {B : Nat} {v : Value} {ps : List (List Ev)} {w : World} (h : Os2 B v ps w) : IsLs w v (mp ps) := by
  rcases h with ⟨rfl, rfl⟩ | ⟨is, last, lv, rfl, h⟩
  · exact ⟨none, 0, rfl, Or.inl rfl⟩
  · rcases h.own.2 with ⟨_, h0⟩ | ⟨g, cap, cur, rfl, e2, e3, e4, e5, e6, e7⟩
    · omega
    · have hlen : (mp (is.map (·.1) ++ [last])).length = is.length + 1 := by simp [mp]
      refine ⟨_, cap, by rw [hlen], Or.inr ⟨g, 0, rfl, (Array.getElem?_eq_some_iff.1 e3).1, ?_⟩⟩
      intro i hi
      rw [hlen] at hi
      have key : ∀ j u, (is.map (·.2) ++ [lv])[j]? = some u → w.cell? ⟨g, 0 + j, none⟩ = some u := by
        intro j u hu
        rw [Nat.zero_add, Lib.cell_of_heap e3]
        rw [← e7, List.getElem?_take] at hu
        split at hu
        · rw [← hu, Array.getElem?_toList]
        · cases hu
      by_cases hi2 : i < is.length
      · refine ⟨is[i].2, key i _ ?_, ?_⟩
        · rw [List.getElem?_append_left (by simpa using hi2)]
          simp [hi2]
        · have he := (h.each is[i] (List.getElem_mem hi2)).en
          have : (mp (is.map (·.1) ++ [last]))[i]'(by rw [hlen]; exact hi) = is[i].1.map (·.1) := by
            unfold mp
            simp only [List.map_append, List.map_map]
            rw [List.getElem_append_left (by simpa using hi2)]
            simp
          rw [this]
          exact he
      · obtain rfl : i = is.length := by omega
        refine ⟨lv, key _ _ (by simp), ?_⟩
        have he := h.last.en
        have : (mp (is.map (·.1) ++ [last]))[is.length]'(by rw [hlen]; exact hi) = last.map (·.1) := by
          unfold mp
          simp only [List.map_append, List.map_map, List.map_cons, List.map_nil]
          rw [List.getElem_append_right (by simp)]
          simp
        rw [this]
        exact he

def ra : List VM.Vl := [⟨1, 2, ⟨#[]⟩⟩]
def rb : List VM.Vl := [⟨2, 0, ⟨#[120]⟩⟩, ⟨0, 0, ⟨#[]⟩⟩]
def exL : List LF.En := [(1, ra), (70, rb)]
def exR : List LF.En := [(70, rb), (1, ra)]
theorem exL_wide : ∀ e ∈ exL, LF.wideE e ∧ e.2.length ≤ 9223372036854775807 := by
  intro e he
  simp only [exL, List.mem_cons, List.not_mem_nil, or_false] at he
  rcases he with rfl | rfl
  · refine ⟨⟨⟨by decide, by decide⟩, ?_⟩, by decide⟩
    intro x hx
    simp only [ra, List.mem_cons, List.not_mem_nil, or_false] at hx
    subst hx
    exact ⟨by decide, by decide⟩
  · refine ⟨⟨⟨by decide, by decide⟩, ?_⟩, by decide⟩
    intro x hx
    simp only [rb, List.mem_cons, List.not_mem_nil, or_false] at hx
    rcases hx with rfl | rfl <;> exact ⟨by decide, by decide⟩
theorem exR_wide : ∀ e ∈ exR, LF.wideE e ∧ e.2.length ≤ 9223372036854775807 := by
  intro e he
  refine exL_wide e ?_
  simp only [exL, exR, List.mem_cons, List.not_mem_nil, or_false] at he ⊢
  exact he.symm
theorem ex1 : LF.pkE exL = 0 ∧ LF.pkS exL = [2, 2, 1, 1, 4, 140, 1, 2, 2, 1, 120, 0] := by decide
theorem ex2 : LF.unp [2, 2, 1, 1, 4, 140, 1, 2, 2, 1, 120, 0] = .ok exL := by rfl
theorem ex3 : LF.unp [2, 2, 1, 1, 4, 140, 1, 2, 2, 1, 120, 0, 0] = .error 1 := by rfl
theorem ex4 : LF.chk exL = 0 ∧ LF.chk exR = 4 := by decide
theorem ex5 : LF.fill exL = [exL] := by rfl
end Go.Proofs.Ythpcdhnaibpjnaa
