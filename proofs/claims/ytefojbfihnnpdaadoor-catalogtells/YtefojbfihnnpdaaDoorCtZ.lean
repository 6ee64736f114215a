/-
  The examples that the statements on the catalog hold first: the plain side, and what lies in memory.
-/
import Derived.Test.YtefojbfihnnpdaaDoorCtX
namespace Go.Proofs.YtefojbfihnnpdaaDoor
open Go.ChangeShapes Go.WideShapes Go.ChangeAt Go.RowKit
set_option linter.unusedVariables false
set_option linter.unusedSimpArgs false
set_option maxRecDepth 100000
set_option maxHeartbeats 1000000

theorem Oe.enC {B : Nat} {v : Value} {l : List Ev} {w : World} (h : Oe B v l w) (hc : ∀ p ∈ l, CapOk p.2) : IsEnC w v (l.map (·.1)) := by
  rcases h.own.2 with ⟨rfl, h0⟩ | ⟨g, cap, cur, rfl, h2, h3, h4, h5, h6, h7⟩
  · have := List.length_eq_zero_iff.1 h0
    subst this
    exact ⟨none, 0, rfl, Or.inl rfl⟩
  · refine ⟨_, cap, by rw [List.length_map], Or.inr ⟨g, 0, rfl, (Array.getElem?_eq_some_iff.1 h3).1, ?_⟩⟩
    intro i hi
    rw [List.length_map] at hi
    obtain ⟨a, b⟩ := esV_get l i hi
    have key : ∀ j u, (esV l)[j]? = some u → w.cell? ⟨g, 0 + j, none⟩ = some u := by
      intro j u hu
      rw [Nat.zero_add, Lib.cell_of_heap h3]
      rw [← h7, List.getElem?_take] at hu
      split at hu
      · rw [← hu, Array.getElem?_toList]
      · cases hu
    rw [List.getElem_map]
    obtain ⟨ar, rc, hv, hr⟩ := (h.rows l[i] (List.getElem_mem hi)).row
    obtain ⟨a', n', c', hv', hle⟩ := hc l[i] (List.getElem_mem hi)
    rw [hv] at hv'
    simp only [Value.slice.injEq] at hv'
    obtain ⟨rfl, rfl, rfl⟩ := hv'
    refine ⟨key _ _ a, ar, rc, ?_, hle, hr⟩
    have := key _ _ b
    rw [hv] at this
    exact this
theorem row_blk {W : World} {b : Nat} {l : List VM.Vl} {T : TypeId} (h : Blk W b (flat cdV l).toArray T) : IsRow W (.slice (some ⟨b, 0, none⟩) l.length l.length) l := by
  refine ⟨_, _, rfl, Or.inr ⟨b, 0, rfl, h.lt, ?_⟩⟩
  intro i hi
  have key : ∀ j u, (flat cdV l)[j]? = some u → W.cell? ⟨b, 0 + j, none⟩ = some u := by
    intro j u hu
    rw [Nat.zero_add]
    exact h.cell j (by simpa using hu)
  have g := fun j hj => flat_get cdV l i j hi hj
  exact ⟨key _ _ (g 0 (by decide)), key _ _ (g 1 (by decide)), key _ _ (g 2 (by decide))⟩
/-- one entry in a slice that is written out -/
theorem lit_en1 (W : World) (i : Int) (u : Value) (r : List VM.Vl) (hu : IsRow W u r) : IsEn (W.alloc (.cells #[.int .i64 i, u] 53)) (.slice (some ⟨W.heap.size, 0, none⟩) 1 1) [(i, r)] := by
  have h3 := Blk.new W #[.int .i64 i, u] 53
  refine ⟨_, _, rfl, Or.inr ⟨W.heap.size, 0, rfl, h3.lt, ?_⟩⟩
  intro k hk
  match k, hk with
  | 0, _ => exact ⟨h3.cell 0 rfl, u, h3.cell 1 rfl, hu.fr ((Fr.refl W).alloc _)⟩
theorem lit_sc2 (W : World) (s t : CT.Sc) (sl tl : Sl) (h : IsL cdC W (slV sl) s.c) (k : IsL cdC W (slV tl) t.c) : IsSc (W.alloc (.cells #[.int .i64 s.id, .string s.n, slV sl, .int .i64 t.id, .string t.n, slV tl] 39)) (.slice (some ⟨W.heap.size, 0, none⟩) 2 2) [s, t] :=
  ⟨[(s, sl), (t, tl)], lit_many cdS W [(s, sl), (t, tl)] 39, rfl, fun p hp => by
    simp only [List.mem_cons, List.not_mem_nil, or_false] at hp
    rcases hp with rfl | rfl
    · exact h.fr ((Fr.refl W).alloc _)
    · exact k.fr ((Fr.refl W).alloc _)⟩
def birdR : List VM.Vl := [⟨2, 0, ⟨#[98, 105, 114, 100, 115]⟩⟩, ⟨2, 0, ⟨#[49, 110, 117, 105, 100]⟩⟩, ⟨2, 0, ⟨#[50, 45, 45, 110, 97, 109, 101]⟩⟩, ⟨2, 0, ⟨#[48, 45, 45, 110, 111, 116, 101]⟩⟩]
theorem bird_chk : CT.chk [birdS] = 0 := by kernel_rfl
theorem bird_rows : CT.rows [birdS] = [(2, birdR)] := by kernel_rfl
theorem bird_of : CT.ofE [(2, birdR)] = 0 := by kernel_rfl
theorem bird_tab : [((2, birdR) : LF.En)].map CT.tabA = [birdS] := by kernel_rfl
def fitA : List VM.Vl := [⟨1, 1, ⟨#[]⟩⟩, ⟨0, 0, ⟨#[]⟩⟩, ⟨3, 0, ⟨#[120]⟩⟩]
def fitB : List VM.Vl := [⟨0, 0, ⟨#[]⟩⟩, ⟨0, 0, ⟨#[]⟩⟩, ⟨0, 0, ⟨#[]⟩⟩]
def fitC : List VM.Vl := [⟨1, 1, ⟨#[]⟩⟩, ⟨1, 2, ⟨#[]⟩⟩, ⟨0, 0, ⟨#[]⟩⟩]
theorem bird_fA : CT.fits birdS fitA = 0 := by kernel_rfl
theorem bird_fB : CT.fits birdS fitB = 5 := by kernel_rfl
theorem bird_fC : CT.fits birdS fitC = 7 := by kernel_rfl
theorem bird_two : CT.chk [birdS, birdS] = 4 := by kernel_rfl
theorem bird_ws : WS [birdS] := by
  intro s hs
  obtain rfl : s = birdS := by simpa using hs
  refine ⟨by decide, ?_, by decide⟩
  intro c hc
  simp only [birdS, birdC, List.mem_cons, List.not_mem_nil, or_false] at hc
  rcases hc with rfl | rfl | rfl <;> decide
theorem bird_ws2 : WS [birdS, birdS] := by
  intro s hs
  refine bird_ws s ?_
  simp at hs ⊢
  exact hs
theorem bird_we : WE [(2, birdR)] := by
  refine ⟨by decide, ?_⟩
  intro e he
  obtain rfl : e = (2, birdR) := by simpa using he
  refine ⟨⟨⟨⟨by decide, by decide⟩, ?_⟩, by decide⟩, ?_⟩
  · intro x hx
    simp only [birdR, List.mem_cons, List.not_mem_nil, or_false] at hx
    rcases hx with rfl | rfl | rfl | rfl <;> exact ⟨by decide, by decide⟩
  · intro x hx
    simp only [birdR, List.mem_cons, List.not_mem_nil, or_false] at hx
    rcases hx with rfl | rfl | rfl | rfl <;> decide
end Go.Proofs.YtefojbfihnnpdaaDoor
