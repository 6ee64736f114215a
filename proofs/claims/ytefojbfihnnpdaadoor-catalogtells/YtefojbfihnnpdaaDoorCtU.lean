/-
  What Of of package catalog answers, for every list of entries.
-/
import Derived.Test.YtefojbfihnnpdaaDoorCtT
namespace Go.Proofs.YtefojbfihnnpdaaDoor
open Go.ChangeShapes Go.WideShapes Go.ChangeAt Go.RowKit
set_option linter.unusedVariables false
set_option linter.unusedSimpArgs false
set_option maxRecDepth 100000
set_option maxHeartbeats 4000000

def TbAns (B : Nat) (en : LF.En) (e : Ending) (w' : World) : Prop :=
  (CT.tabB en = true ∧ ∃ v, e = .returned (.tuple #[.agg #[.int .i64 (CT.tabA en).id, .string (CT.tabA en).n, v], .bool true]) ∧ w'.ownsRow B 44 4 v (CT.tabA en).c.length (flat cdC (CT.tabA en).c)) ∨ (CT.tabB en = false ∧ e = .returned (.tuple #[.agg #[.int .i64 0, .string ⟨#[]⟩, .slice none 0 0], .bool false]))
theorem tableOf_any (en : LF.En) (a : Option Addr) (cap : Nat) (w : World) (hcap : en.2.length ≤ cap) (hr : en.2.length ≤ 1000000) (hs : ∀ x ∈ en.2, x.s.size ≤ 140737488355327) (hc : en.2 = [] ∨ ∃ b o, a = some ⟨b, o, none⟩ ∧ b < w.heap.size ∧ CellsAt w b o en.2) :
    Calls Tryd.prog 21 #[.agg #[.int .i64 en.1, .slice a en.2.length cap]] w fun e w' => TbAns w.heap.size en e w' ∧ Fr w w' := by
  obtain ⟨id, l⟩ := en
  cases l with
  | nil =>
    refine (tableOf_bad0 id a cap w).mono ?_
    rintro e w' ⟨rfl, f⟩
    exact ⟨.inr ⟨rfl, rfl⟩, f⟩
  | cons x r =>
    rcases hc with h | ⟨b, o, rfl, hb, hc⟩
    · cases h
    by_cases hx : x.k = 2
    · obtain ⟨xk, xn, xs⟩ := x
      simp only at hx
      subst hx
      refine (tableOf_good id b o cap xn xs r w hb hc (by simpa using hcap) (by simp at hr; omega) (fun y hy => hs y (by simp [hy]))).mono ?_
      rintro e w' ⟨h, f⟩
      refine ⟨?_, f⟩
      rcases h with ⟨h1, v, rfl, ho⟩ | ⟨h1, rfl⟩
      · exact .inl ⟨by simp [CT.tabB, h1], v, rfl, by simpa [CT.tabA] using ho⟩
      · exact .inr ⟨by simp [CT.tabB, h1], rfl⟩
    · have h0 := (hc 0 (by simp)).1
      simp only [List.getElem_cons_zero, Nat.zero_mul, Nat.add_zero] at h0
      refine (tableOf_bad1 id b o r.length cap x w hx hb h0).mono ?_
      rintro e w' ⟨rfl, f⟩
      exact ⟨.inr ⟨by simp [CT.tabB, hx], rfl⟩, f⟩
/-- entries whose rows have room -/
def EnC (w : World) (b o : Nat) (l : List LF.En) : Prop :=
  ∀ i (h : i < l.length), w.cell? ⟨b, o + i * 2, none⟩ = some (.int .i64 l[i].1) ∧ ∃ (a : Option Addr) (cap : Nat), w.cell? ⟨b, o + i * 2 + 1, none⟩ = some (.slice a l[i].2.length cap) ∧ l[i].2.length ≤ cap ∧ (l[i].2 = [] ∨ ∃ b' o', a = some ⟨b', o', none⟩ ∧ b' < w.heap.size ∧ CellsAt w b' o' l[i].2)
def IsEnC (w : World) (v : Value) (l : List LF.En) : Prop :=
  ∃ (a : Option Addr) (cap : Nat), v = .slice a l.length cap ∧ (l = [] ∨ ∃ b o, a = some ⟨b, o, none⟩ ∧ b < w.heap.size ∧ EnC w b o l)
theorem EnC.fr {w w' : World} {b o : Nat} {l : List LF.En} (h : EnC w b o l) (hb : b < w.heap.size) (f : Fr w w') : EnC w' b o l := by
  intro i hi
  obtain ⟨h0, a, cap, h1, h2, h3⟩ := h i hi
  refine ⟨(Below.cell f hb).trans h0, a, cap, (Below.cell f hb).trans h1, h2, ?_⟩
  rcases h3 with h | ⟨b', o', rfl, hb', hc⟩
  · exact .inl h
  · exact .inr ⟨b', o', rfl, Nat.lt_of_lt_of_le hb' f.size, hc.fr hb' f⟩
theorem IsEnC.fr {w w' : World} {v : Value} {l : List LF.En} (h : IsEnC w v l) (f : Fr w w') : IsEnC w' v l := by
  obtain ⟨a, cap, rfl, h0 | ⟨b, o, rfl, hb, hc⟩⟩ := h
  · exact ⟨a, cap, rfl, Or.inl h0⟩
  · exact ⟨_, cap, rfl, Or.inr ⟨b, o, rfl, Nat.lt_of_lt_of_le hb f.size, hc.fr hb f⟩⟩
theorem IsEnC.en {w : World} {v : Value} {l : List LF.En} (h : IsEnC w v l) : IsEn w v l := by
  obtain ⟨a, cap, rfl, h0 | ⟨b, o, rfl, hb, hc⟩⟩ := h
  · exact ⟨a, cap, rfl, Or.inl h0⟩
  · refine ⟨_, cap, rfl, Or.inr ⟨b, o, rfl, hb, fun i hi => ?_⟩⟩
    obtain ⟨h0, a, cap, h1, h2, h3⟩ := hc i hi
    exact ⟨h0, _, h1, a, cap, rfl, h3⟩
/-- a row of tables that the call owns, each with columns of its own -/
structure OSc (B : Nat) (v : Value) (ps : List (CT.Sc × Sl)) (w : World) : Prop where
  own : w.ownsRow B 39 3 v ps.length (flat cdS ps)
  cols : ∀ p ∈ ps, w.ownsRow B 44 4 (slV p.2) p.1.c.length (flat cdC p.1.c)
theorem OSc.fr {B : Nat} {v : Value} {l : List (CT.Sc × Sl)} {w w' : World} (h : OSc B v l w) (f : Fr w w') : OSc B v l w' :=
  ⟨own_fr h.own f, fun p hp => own_fr (h.cols p hp) f⟩
theorem OSc.is {B : Nat} {v : Value} {l : List (CT.Sc × Sl)} {w : World} (h : OSc B v l w) : IsSc w v (l.map (·.1)) :=
  ⟨l, isL_own h.own, rfl, fun p hp => isL_own (h.cols p hp)⟩
theorem OSc.snoc {B : Nat} {v v' : Value} {l : List (CT.Sc × Sl)} {p : CT.Sc × Sl} {w w' : World} (h : OSc B v l w) (hp : w.ownsRow B 44 4 (slV p.2) p.1.c.length (flat cdC p.1.c)) (ho : w'.ownsRow B 39 3 v' (l.length + 1) (flat cdS (l ++ [p]))) (hg : w.grownBy w' v.ownBlock) : OSc B v' (l ++ [p]) w' := by
  have hk : ∀ (u : Value) (c : List CT.Cl), w.ownsRow B 44 4 u c.length (flat cdC c) → w'.ownsRow B 44 4 u c.length (flat cdC c) := by
    intro u c hu
    refine own_keep hu fun k cur _ hk => ?_
    refine hg.block k (Array.getElem?_eq_some_iff.1 hk).1 fun e => ?_
    obtain ⟨cur', hcur⟩ := own_block h.own _ e.symm
    rw [hk] at hcur
    simp at hcur
  refine ⟨by rw [List.length_append]; exact ho, fun q hq => ?_⟩
  rw [List.mem_append, List.mem_singleton] at hq
  rcases hq with hq | rfl
  · exact hk _ _ (h.cols q hq)
  · exact hk _ _ hp
theorem Tryd.infoSc : (Tryd.prog.info? 39).map (fun i => (i.zero, i.size, i.bytes)) = some (some (.agg #[.int .i64 0, .string ⟨#[]⟩, .slice none 0 0]), 3, 48) := by kernel_rfl
namespace CT
/-- what is wrong with rows that should tell tables -/
def ofE (l : List LF.En) : Nat := if LF.chk l ≠ 0 then LF.chk l else if l.all tabB = true then chk (l.map tabA) else 1
theorem chkE_short : ∀ (l : List LF.En) (last : Int), LF.chkE last l = 0 → ∀ e ∈ l, e.2.length ≤ 8
  | [], _, _, e, he => by simp at he
  | x :: l, last, h, e, he => by
    rw [LF.chkE] at h
    by_cases h1 : LF.one last x = 0
    · rw [if_pos h1] at h
      rcases List.mem_cons.1 he with rfl | he
      · unfold LF.one at h1
        split at h1
        · cases h1
        · split at h1
          · cases h1
          · unfold VM.chkRow at h1
            split at h1
            · cases h1
            · omega
      · exact chkE_short l _ h e he
    · rw [if_neg h1] at h
      exact absurd h h1
theorem chk_short {l : List LF.En} (h : LF.chk l = 0) : l.length ≤ 40 ∧ ∀ e ∈ l, e.2.length ≤ 8 := by
  unfold LF.chk at h
  split at h
  · cases h
  · exact ⟨by omega, chkE_short l 0 h⟩
theorem colA_wide (x : VM.Vl) (h : x.s.size ≤ 140737488355327) : (colA x).n.size ≤ 140737488355327 := by
  unfold colA
  split
  · simp only [ByteArray.size_extract]; omega
  · exact Nat.zero_le _
theorem tabA_wide (e : LF.En) (h : ∀ x ∈ e.2, x.s.size ≤ 140737488355327) (hl : e.2.length ≤ 8) : (tabA e).n.size ≤ 140737488355327 ∧ WC (tabA e).c ∧ (tabA e).c.length ≤ 9223372036854775806 := by
  obtain ⟨id, l⟩ := e
  cases l with
  | nil => exact ⟨Nat.zero_le _, fun c hc => by simp [tabA] at hc, by simp [tabA]⟩
  | cons x r =>
    refine ⟨h x (by simp), ?_, ?_⟩
    · intro c hc
      simp only [tabA, List.mem_map] at hc
      obtain ⟨y, hy, rfl⟩ := hc
      exact colA_wide y (h y (by simp [hy]))
    · simp only [tabA, List.length_map]
      simp at hl
      omega
end CT
end Go.Proofs.YtefojbfihnnpdaaDoor
