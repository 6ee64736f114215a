/-
  A slice of tokens as a plain list; SameTokens of two that are alike but for their places.
-/
import Derived.Test.YtoagobpkenfbkaaGreatDoorLxY
namespace Go.Proofs.YtoagobpkenfbkaaGreatDoor
open Go.ChangeShapes Go.WideShapes Go.ChangeAt Go.RowKit Go.Shelf
set_option linter.unusedVariables false
set_option linter.unusedSimpArgs false

/-- the cells behind an address hold these tokens, four cells each -/
def TokAt (w : World) (b o : Nat) (l : List (Int × LX.Tk)) : Prop :=
  ∀ i (h : i < l.length), w.cell? ⟨b, o + i * 4, none⟩ = some (.int .i64 l[i].2.k) ∧ w.cell? ⟨b, o + i * 4 + 1, none⟩ = some (.int .i64 (l[i].1 : Int)) ∧ w.cell? ⟨b, o + i * 4 + 2, none⟩ = some (.int .i64 l[i].2.n) ∧ w.cell? ⟨b, o + i * 4 + 3, none⟩ = some (.string ⟨l[i].2.s.toArray⟩)
/-- a slice of tokens stands for this list -/
def IsTk (w : World) (v : Value) (l : List (Int × LX.Tk)) : Prop :=
  ∃ (a : Option Addr) (cap : Nat), v = .slice a l.length cap ∧ (l = [] ∨ ∃ b o, a = some ⟨b, o, none⟩ ∧ b < w.heap.size ∧ TokAt w b o l)
theorem TokAt.fr {w w' : World} {b o : Nat} {l : List (Int × LX.Tk)} (h : TokAt w b o l) (hb : b < w.heap.size) (f : Fr w w') : TokAt w' b o l := by
  intro i hi
  obtain ⟨h0, h1, h2, h3⟩ := h i hi
  exact ⟨(Below.cell f hb).trans h0, (Below.cell f hb).trans h1, (Below.cell f hb).trans h2, (Below.cell f hb).trans h3⟩
theorem IsTk.fr {w w' : World} {v : Value} {l : List (Int × LX.Tk)} (h : IsTk w v l) (f : Fr w w') : IsTk w' v l := by
  obtain ⟨a, cap, rfl, h0 | ⟨b, o, rfl, hb, hc⟩⟩ := h
  · exact ⟨a, cap, rfl, Or.inl h0⟩
  · exact ⟨_, cap, rfl, Or.inr ⟨b, o, rfl, Nat.lt_of_lt_of_le hb f.size, hc.fr hb f⟩⟩
/-- tokens with their places as numbers of the program -/
def tz (l : List (Nat × LX.Tk)) : List (Int × LX.Tk) := l.map fun p => ((p.1 : Int), p.2)
theorem tz_len (l : List (Nat × LX.Tk)) : (tz l).length = l.length := by simp [tz]
theorem tz_snd (l : List (Nat × LX.Tk)) : (tz l).map (·.2) = l.map (·.2) := by simp [tz]
theorem toksV_get (l : List (Nat × LX.Tk)) (i : Nat) (h : i < l.length) : (toksV l)[i * 4]? = some (.int .i64 l[i].2.k) ∧ (toksV l)[i * 4 + 1]? = some (.int .i64 (l[i].1 : Int)) ∧ (toksV l)[i * 4 + 2]? = some (.int .i64 l[i].2.n) ∧ (toksV l)[i * 4 + 3]? = some (.string ⟨l[i].2.s.toArray⟩) := by
  induction l generalizing i with
  | nil => simp at h
  | cons a t ih =>
    cases i with
    | zero => simp [toksV, tokC]
    | succ i =>
      have := ih i (by simpa using h)
      have e : toksV (a :: t) = .int .i64 a.2.k :: .int .i64 (a.1 : Int) :: .int .i64 a.2.n :: .string ⟨a.2.s.toArray⟩ :: toksV t := by simp [toksV, tokC]
      rw [e, show (i + 1) * 4 = i * 4 + 1 + 1 + 1 + 1 by omega]
      simpa using this
theorem Ot.tk {B : Nat} {v : Value} {l : List (Nat × LX.Tk)} {w : World} (h : Ot B v l w) : IsTk w v (tz l) := by
  rcases h.2 with ⟨rfl, h0⟩ | ⟨g, cap, cur, rfl, h2, h3, h4, h5, h6, h7⟩
  · have := List.length_eq_zero_iff.1 h0
    subst this
    exact ⟨none, 0, rfl, Or.inl rfl⟩
  · refine ⟨_, cap, by rw [tz_len], Or.inr ⟨g, 0, rfl, (Array.getElem?_eq_some_iff.1 h3).1, ?_⟩⟩
    intro i hi0
    have hi : i < l.length := by rw [tz_len] at hi0; exact hi0
    obtain ⟨a, b, c, d⟩ := toksV_get l i hi
    have key : ∀ j u, (toksV l)[j]? = some u → w.cell? ⟨g, 0 + j, none⟩ = some u := by
      intro j u hu
      rw [Nat.zero_add, Lib.cell_of_heap h3]
      rw [← h7, List.getElem?_take] at hu
      split at hu
      · rw [← hu, Array.getElem?_toList]
      · cases hu
    have e1 : (tz l)[i] = ((l[i].1 : Int), l[i].2) := by simp [tz]
    rw [e1]
    exact ⟨key _ _ a, key _ _ b, key _ _ c, key _ _ d⟩

set_option maxRecDepth 100000 in
set_option maxHeartbeats 2000000 in
theorem sameToks_eq (v u : Value) (l m : List (Int × LX.Tk)) (w : World) (hv : IsTk w v l) (hu : IsTk w u m) (hlm : l.map (·.2) = m.map (·.2)) (hl : l.length ≤ 9223372036854775806) :
    Calls Tryz.prog 12 #[v, u] w fun e w' => e = .returned (.bool true) ∧ Fr w w' := by
  obtain ⟨a, cap, rfl, hcs⟩ := hv
  obtain ⟨a2, cap2, rfl, hcs2⟩ := hu
  have hlen : l.length = m.length := by have := congrArg List.length hlm; simpa using this
  rw [← hlen]
  have HC : Hid _ := hcs
  have HC2 : Hid _ := hcs2
  have HM : Hid _ := hlm
  have HL : Hid _ := hlen
  clear hcs hcs2 hlm hlen
  go_enter Tryz.func12, Tryz.ntmps12
  go_wp2_with fail
  go_loopw [5] (fun iv wr => ∃ i : Nat, iv = .int .i64 i ∧ i ≤ l.length ∧ Fr w wr) (fun iv _ => l.length - (intOf iv).toNat)
  case atStart => exact ⟨0, rfl, by omega, Fr.refl _⟩
  case round =>
    obtain ⟨i, rfl, hi, hfr⟩ := hrel
    by_cases hlt : i < l.length
    · have hlen := HL.out
      obtain ⟨b, o, rfl, hb, hc⟩ : ∃ b o, a = some ⟨b, o, none⟩ ∧ b < w.heap.size ∧ TokAt w b o l := by
        rcases HC.out with h | h
        · subst h; simp at hlt
        · exact h
      obtain ⟨b2, o2, rfl, hb2, hc2⟩ : ∃ b o, a2 = some ⟨b, o, none⟩ ∧ b < w.heap.size ∧ TokAt w b o m := by
        rcases HC2.out with h | h
        · subst h; simp at hlen; subst hlen; simp at hlt
        · exact h
      obtain ⟨c0, c1, c2, c3⟩ := (hc.fr hb hfr) i hlt
      obtain ⟨d0, d1, d2, d3⟩ := (hc2.fr hb2 hfr) i (by omega)
      have he : l[i].2 = m[i].2 := by
        have e1 : (l.map (·.2))[i]? = (m.map (·.2))[i]? := by rw [HM.out]
        simpa [List.getElem?_map, List.getElem?_eq_getElem hlt, List.getElem?_eq_getElem (show i < m.length by omega)] using e1
      rw [← he] at d0 d2 d3
      generalize l[i].2 = x at c0 c2 c3 d0 d2 d3
      obtain ⟨k, n, s⟩ := x
      simp only at c0 c2 c3 d0 d2 d3
      have hlt' : (i : Int) < (l.length : Int) := by omega
      have HF : Hid _ := hfr
      clear hc hc2 hfr he c1 d1 hlen
      go_wp2_with fail
      go_quiet (fail)
      go_wp2_with fail
      go_roundw
      case rel => exact ⟨i + 1, by go_num, by omega, by first | exact Fr.drew HF.out | exact Fr.drewN HF.out _ | exact HF.out⟩
      case measure => simp [intOf]; omega
    · obtain rfl : i = l.length := by omega
      go_wp2_with fail
      go_ret
      exact ⟨rfl, hfr⟩
end Go.Proofs.YtoagobpkenfbkaaGreatDoor
