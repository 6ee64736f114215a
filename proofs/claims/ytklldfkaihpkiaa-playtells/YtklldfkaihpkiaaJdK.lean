/-
  Variables of a call that hold stores; parts of lists; what journalBegun reckons, as plain data.
-/
import Derived.Test.YtklldfkaihpkiaaJdJ
import Derived.Test.YtklldfkaihpkiaaDkBg
namespace Go.Proofs.Ytklldfkaihpkiaa
open Go.ChangeShapes Go.WideShapes Go.ChangeAt Go.RowKit
set_option linter.unusedVariables false
set_option linter.unusedSimpArgs false
set_option maxRecDepth 100000

/-- a box of a store -/
structure SV (W : World) (b : Nat) (p q P Q : Value) (s : JN.S) : Prop where
  b : Blk W b #[p, q, P, Q] 46
  s : IsS W p q P Q s
theorem SV.fr {W W' : World} {b : Nat} {p q P Q : Value} {s : JN.S} (h : SV W b p q P Q s) (f : Fr W W') : SV W' b p q P Q s := ⟨h.b.fr f, h.s.fr f⟩
theorem SV.new {W : World} {p q P Q : Value} {s : JN.S} (h : IsS W p q P Q s) : SV (W.alloc (.cells #[p, q, P, Q] 46)) W.heap.size p q P Q s := ⟨Blk.new W _ _, h.fr ((Fr.refl W).alloc _)⟩
theorem IsL.upto {α : Type} {E : Cd α} {w : World} {a : Option Addr} {m c : Nat} {l : List α} (h : IsL E w (.slice a m c) l) (n : Nat) (hn : n ≤ l.length) : IsL E w (.slice a n c) (l.take n) := by
  obtain ⟨a', cap, e, hc, hh⟩ := h
  cases e
  refine ⟨a, c, by rw [List.length_take, Nat.min_eq_left hn], by rw [List.length_take]; omega, ?_⟩
  rcases hh with h0 | ⟨b, o, e, hb, hat⟩
  · left; rw [h0]; simp
  · right
    refine ⟨b, o, e, hb, ?_⟩
    intro j u hj
    refine hat j u ?_
    have hs : flat E l = flat E (l.take n) ++ flat E (l.drop n) := by rw [← flat_app, List.take_append_drop]
    rw [hs, List.getElem?_append_left (List.getElem?_eq_some_iff.1 hj).1]
    exact hj
theorem IsL.cap {α : Type} {E : Cd α} {w : World} {a : Option Addr} {m c : Nat} {l : List α} (h : IsL E w (.slice a m c) l) : m = l.length ∧ l.length ≤ c := by
  obtain ⟨a', cap, e, hc, hh⟩ := h
  cases e
  exact ⟨rfl, hc⟩
namespace JN
def s0 : S := ⟨⟨[⟨#[97]⟩, ⟨#[98]⟩], []⟩, none⟩
def l0 : List W := [⟨1, ⟨#[66]⟩⟩, ⟨3, ⟨#[68]⟩⟩]
def o0 : List O := stepsO s0 l0
theorem e_steps : stepsS s0 l0 = (o0, 0) := by kernel_rfl
theorem o0_len : o0.length = 10 := by kernel_rfl
theorem o0_first : o0 = ⟨2, 1, ⟨#[0, 1, 98]⟩⟩ :: o0.tail := by kernel_rfl
def t0 : S := (playS s0 (o0.take 5)).1
theorem e_t : playS s0 (o0.take 5) = (t0, 0) := by
  have : (playS s0 (o0.take 5)).2 = 0 := by kernel_rfl
  exact Prod.ext rfl this
theorem t0_jo : t0.jo.pg = [⟨#[74, 2]⟩, ⟨#[0, 1, 98]⟩, ⟨#[0, 3]⟩] := by kernel_rfl
def s1 : S := ⟨⟨[⟨#[97]⟩, ⟨#[66]⟩], []⟩, t0.jo⟩
def u0 : S := (recS s1).1
theorem e_u : recS s1 = (u0, 0) := by
  have : (recS s1).2 = 0 := by kernel_rfl
  exact Prod.ext rfl this
theorem u0_da : u0.da.pg = [⟨#[97]⟩, ⟨#[98]⟩] := by kernel_rfl
def v0 : S := (playS s0 o0).1
theorem e_v : playS s0 o0 = (v0, 0) := by
  have : (playS s0 o0).2 = 0 := by kernel_rfl
  exact Prod.ext rfl this
theorem v0_da : v0.da.pg = [⟨#[97]⟩, ⟨#[66]⟩, ⟨#[]⟩, ⟨#[68]⟩] := by kernel_rfl
theorem v0_rest : rest v0 := by
  have h := commit_done (s := s0) (l := l0) (by rw [e_steps])
  rw [e_steps] at h
  exact h.2.1
theorem s1_len : s1.da.pg.length ≤ 9223372036854775806 ∧ s1.jo.pg.length ≤ 9223372036854775806 := by
  have : s1.jo.pg = [⟨#[74, 2]⟩, ⟨#[0, 1, 98]⟩, ⟨#[0, 3]⟩] := t0_jo
  rw [this]
  exact ⟨by decide, by decide⟩
end JN
end Go.Proofs.Ytklldfkaihpkiaa
