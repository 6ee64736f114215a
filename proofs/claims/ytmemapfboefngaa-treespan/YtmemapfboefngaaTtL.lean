/-
  A tree in the midst of a change as levels; what size, above, cut and join of package tree do at whatever level.
-/
import Derived.Test.YtmemapfboefngaaTtJ
import Derived.Test.YtmemapfboefngaaTuB
namespace Go.Proofs.Ytmemapfboefngaa
open Go.ChangeShapes Go.WideShapes Go.ChangeAt Go.RowKit
set_option linter.unusedVariables false
set_option linter.unusedSimpArgs false
set_option maxRecDepth 100000
set_option maxHeartbeats 2000000
namespace TR
def sizeS {P : Type} (L : List (List P)) (U : List (List Nat)) : Nat → Nat → Nat
  | 0, a => (L.getD a []).length
  | k + 1, a => (U.getD k []).getD a 0
def lenS {P : Type} (L : List (List P)) (U : List (List Nat)) : Nat → Nat
  | 0 => L.length
  | k + 1 => (U.getD k []).length
def cutS {P : Type} (k a f : Nat) (L : List (List P)) (U : List (List Nat)) : List (List P) × List (List Nat) := match k with
  | 0 => (cutL L a f, U)
  | k + 1 => (L, U.set k (cut (U.getD k []) a f))
def joinS {P : Type} (k a : Nat) (L : List (List P)) (U : List (List Nat)) : List (List P) × List (List Nat) := match k with
  | 0 => (joinL L a, U)
  | k + 1 => (L, U.set k (join (U.getD k []) a))
end TR
/-- not too many -/
structure Bd (L : List (List TK.Pr)) (U : List (List Nat)) : Prop where
  l : L.length ≤ 100
  r : ∀ x ∈ L, x.length ≤ 100
  u : U.length ≤ 100
  v : ∀ x ∈ U, x.length ≤ 100 ∧ ∀ y ∈ x, y ≤ 100
/-- a tree of the call's own in a box: its leaves, and the levels above -/
def Tr (B : Nat) (w : World) (Bc : Nat) (L : List (List TK.Pr)) (U : List (List Nat)) : Prop := ∃ p q zs ys, Tn B w Bc p q zs ys ∧ zs.map Prod.snd = L ∧ ys.map Prod.snd = U.map nI
section
variable {B : Nat} {w w' : World} {Bc : Nat} {L : List (List TK.Pr)} {U : List (List Nat)}
theorem Tr.fr (h : Tr B w Bc L U) (f : Fr w w') : Tr B w' Bc L U := by
  obtain ⟨p, q, zs, ys, h1, h2⟩ := h
  exact ⟨p, q, zs, ys, h1.fr f, h2⟩
theorem map_get {α β : Type} {l : List α} {m : List β} {f : α → β} (e : l.map f = m) {i : Nat} (h1 : i < l.length) (h2 : i < m.length) : f l[i] = m[i] := by
  subst e; simp
theorem getD_get {α : Type} {l : List α} {i : Nat} {d : α} (h : i < l.length) : l.getD i d = l[i] := by simp [List.getD_eq_getElem?_getD, h]
theorem sizeS_any (h : Tr B w Bc L U) (hb : Bd L U) (k a : Nat) (hk : k ≤ U.length) (ha : a < TR.lenS L U k) : Calls Try.prog 58 #[.pointer (some ⟨Bc, 0, none⟩), .int .i64 (k : Int), .int .i64 (a : Int)] w fun e w' => e = .returned (.int .i64 ((TR.sizeS L U k a : Nat) : Int)) ∧ Fr w w' := by
  obtain ⟨p, q, zs, ys, h1, h2, h3⟩ := h
  have l1 := congrArg List.length h2
  have l2 := congrArg List.length h3
  simp only [List.length_map] at l1 l2
  cases k with
  | zero =>
    have ha' : a < L.length := ha
    refine (size0_any h1 a (by omega)).mono ?_
    rintro e w' ⟨rfl, f⟩
    refine ⟨?_, f⟩
    have := map_get h2 (i := a) (by omega) ha'
    simp only [TR.sizeS, getD_get ha', ← this]
  | succ k =>
    have hkU : k < U.length := by omega
    have ha' : a < (U[k]).length := by
      have := ha
      simp only [TR.lenS, getD_get hkU] at this
      exact this
    have hy := map_get h3 (i := k) (by omega) (by simpa using hkU)
    simp only [List.getElem_map] at hy
    have hlen : a < (ys[k]'(by omega)).2.length := by rw [hy, nI_len]; exact ha'
    have := hb.u
    refine (size1_any h1 k a (by omega) hlen (by omega) ((k + 1 : Nat) : Int) (by simp)).mono ?_
    rintro e w' ⟨rfl, f⟩
    refine ⟨?_, f⟩
    have e1 : (ys[k]'(by omega)).2[a] = ((U[k])[a] : Int) := by
      simp only [hy, nI_get]
    simp only [TR.sizeS, getD_get hkU, getD_get ha', e1]
theorem aboveS_any (h : Tr B w Bc L U) (hb : Bd L U) (k a : Nat) (hk : k < U.length) (ha : a < (U[k]).sum) (hs : (U[k]).sum ≤ 1000) :
    Calls Try.prog 60 #[.pointer (some ⟨Bc, 0, none⟩), .int .i64 (k : Int), .int .i64 (a : Int)] w fun e w' => e = .returned (.tuple #[.int .i64 ((TR.above U[k] a : Nat) : Int), .int .i64 (((TR.base U[k] (TR.above U[k] a + 1) : Nat) : Int) - 1)]) ∧ Fr w w' := by
  obtain ⟨p, q, zs, ys, h1, h2, h3⟩ := h
  have l2 := congrArg List.length h3
  simp only [List.length_map] at l2
  have hy := map_get h3 (i := k) (by omega) (by simpa using hk)
  simp only [List.getElem_map] at hy
  exact above_any h1 k a (by omega) U[k] hy ha hs (by have := (hb.v _ (List.getElem_mem hk)).1; omega)
theorem map_set_nI {ys : List (Sq × List Int)} (h : ys.map Prod.snd = U.map nI) (k : Nat) (s : Sq) (u : List Nat) : (ys.set k (s, nI u)).map Prod.snd = (U.set k u).map nI := by
  rw [List.map_set, List.map_set, h]
theorem cutS_any (h : Tr B w Bc L U) (hb : Bd L U) (hB : B ≤ w.heap.size) (k a f : Nat) (hk : k ≤ U.length) (ha : a < TR.lenS L U k) (hf : f < TR.sizeS L U k a) :
    Calls Try.prog 59 #[.pointer (some ⟨Bc, 0, none⟩), .int .i64 (k : Int), .int .i64 (a : Int), .int .i64 (f : Int)] w fun e w' => e = .returned (.tuple #[]) ∧ Tr B w' Bc (TR.cutS k a f L U).1 (TR.cutS k a f L U).2 ∧ Below B w w' := by
  obtain ⟨p, q, zs, ys, h1, h2, h3⟩ := h
  have l1 := congrArg List.length h2
  have l2 := congrArg List.length h3
  simp only [List.length_map] at l1 l2
  have hbl := hb.l
  have hbu := hb.u
  cases k with
  | zero =>
    have ha' : a < L.length := ha
    have hz : a < zs.length := by omega
    have e1 := map_get h2 hz ha'
    have hf' : f < (zs[a]).2.length := by rw [e1]; have := hf; simp only [TR.sizeS, getD_get ha'] at this; exact this
    have hr : (zs[a]).2.length ≤ 100 := by rw [e1]; exact hb.r _ (List.getElem_mem ha')
    refine (cut0_any h1 hB a f hz (by omega) hf' hr).mono ?_
    rintro e w' ⟨p', zs', rfl, t1, t2, t3⟩
    exact ⟨rfl, ⟨p', q, zs', ys, t1, by rw [t2, h2]; rfl, h3⟩, t3⟩
  | succ k =>
    have hkU : k < U.length := by omega
    have ha' : a < (U[k]).length := by
      have := ha
      simp only [TR.lenS, getD_get hkU] at this
      exact this
    have hy := map_get h3 (i := k) (by omega) (by simpa using hkU)
    simp only [List.getElem_map] at hy
    have hv := hb.v _ (List.getElem_mem hkU)
    have hf' : f < (U[k])[a] := by have := hf; simp only [TR.sizeS, getD_get hkU, getD_get ha'] at this; exact this
    have hx := hv.2 _ (List.getElem_mem ha')
    refine (cut1_any h1 hB k a f (by omega) (by omega) U[k] hy ha' (by omega) (by omega) (by omega) ((k + 1 : Nat) : Int) (by simp)).mono ?_
    rintro e w' ⟨s', rfl, t1, t3⟩
    exact ⟨rfl, ⟨p, q, zs, _, t1, h2, by rw [map_set_nI h3]; simp only [TR.cutS, getD_get hkU]⟩, t3⟩
theorem joinS_any (h : Tr B w Bc L U) (hb : Bd L U) (hB : B ≤ w.heap.size) (k a : Nat) (hk : k ≤ U.length) (ha : a + 1 < TR.lenS L U k) :
    Calls Try.prog 75 #[.pointer (some ⟨Bc, 0, none⟩), .int .i64 (k : Int), .int .i64 (a : Int)] w fun e w' => e = .returned (.tuple #[]) ∧ Tr B w' Bc (TR.joinS k a L U).1 (TR.joinS k a L U).2 ∧ Below B w w' := by
  obtain ⟨p, q, zs, ys, h1, h2, h3⟩ := h
  have l1 := congrArg List.length h2
  have l2 := congrArg List.length h3
  simp only [List.length_map] at l1 l2
  have hbl := hb.l
  have hbu := hb.u
  cases k with
  | zero =>
    have ha' : a + 1 < L.length := ha
    have e1 := map_get h2 (i := a) (by omega) (by omega)
    have e2 := map_get h2 (i := a + 1) (by omega) (by omega)
    refine (join0_any h1 hB a (by omega) (by omega) (by rw [e1]; exact hb.r _ (List.getElem_mem _)) (by rw [e2]; exact hb.r _ (List.getElem_mem _))).mono ?_
    rintro e w' ⟨p', zs', rfl, t1, t2, t3⟩
    exact ⟨rfl, ⟨p', q, zs', ys, t1, by rw [t2, h2]; rfl, h3⟩, t3⟩
  | succ k =>
    have hkU : k < U.length := by omega
    have ha' : a + 1 < (U[k]).length := by
      have := ha
      simp only [TR.lenS, getD_get hkU] at this
      exact this
    have hy := map_get h3 (i := k) (by omega) (by simpa using hkU)
    simp only [List.getElem_map] at hy
    have hv := hb.v _ (List.getElem_mem hkU)
    have hx := hv.2 _ (List.getElem_mem (show a < (U[k]).length by omega))
    have hx2 := hv.2 _ (List.getElem_mem ha')
    refine (join1_any h1 hB k a (by omega) (by omega) U[k] hy ha' (by omega) (by omega) (by omega) ((k + 1 : Nat) : Int) (by simp)).mono ?_
    rintro e w' ⟨s', rfl, t1, t3⟩
    exact ⟨rfl, ⟨p, q, zs, _, t1, h2, by rw [map_set_nI h3]; simp only [TR.joinS, getD_get hkU]⟩, t3⟩
end
end Go.Proofs.Ytmemapfboefngaa
