/-
  What belongs together: TtG, TtH.
-/
import Derived.Test.YtmemapfboefngaaTtF
import Derived.Test.YtmemapfboefngaaTtE
namespace Go.Proofs.Ytmemapfboefngaa
open Go.ChangeShapes Go.WideShapes Go.ChangeAt Go.RowKit
set_option linter.unusedVariables false
set_option linter.unusedSimpArgs false
set_option maxRecDepth 100000
set_option maxHeartbeats 2000000
theorem Apart.symm {a b : Option Nat} (h : Apart a b) : Apart b a := by
  unfold Apart at *
  rcases h with rfl | h
  · cases b with
    | none => exact .inl rfl
    | some g => exact .inr (by simp)
  · exact .inr (Ne.symm h)
/-- rows of one's own in a row of one's own -/
structure OP {α : Type} (E : Cd α) (T Ts : TypeId) (B : Nat) (w : World) (v : Value) (zs : List (Sq × List α)) : Prop where
  own : w.ownsRow B Ts 1 v zs.length (flat cdS (zs.map Prod.fst))
  row : ∀ z ∈ zs, w.ownsRow B T E.k z.1.v z.2.length (flat E z.2)
  ap : zs.Pairwise fun a b => Apart a.1.v.ownBlock b.1.v.ownBlock
section
variable {α : Type} {E : Cd α} {T Ts : TypeId} {B : Nat} {w w' : World} {v : Value} {zs : List (Sq × List α)}
theorem OL.op {qs : List Sq} {ls : List (List α)} (h : OL E T Ts B w v qs ls) : OP E T Ts B w v (qs.zip ls) ∧ (qs.zip ls).map Prod.snd = ls := by
  have hl := h.len
  have e1 : (qs.zip ls).map Prod.fst = qs := List.map_fst_zip (by omega)
  have e2 : (qs.zip ls).map Prod.snd = ls := List.map_snd_zip (by omega)
  refine ⟨⟨?_, ?_, ?_⟩, e2⟩
  · rw [e1, show (qs.zip ls).length = ls.length by rw [List.length_zip]; omega]; exact h.own
  · intro z hz
    obtain ⟨i, hi, rfl⟩ := List.getElem_of_mem hz
    rw [List.length_zip] at hi
    rw [List.getElem_zip]
    exact h.row i (by omega) (by omega)
  · refine List.pairwise_iff_getElem.2 fun i j hi hj hij => ?_
    rw [List.length_zip] at hi hj
    rw [List.getElem_zip, List.getElem_zip]
    exact h.ap i j (by omega) (by omega) (by omega)
theorem OP.lists (h : OP E T Ts B w v zs) : IsLL E w v (zs.map Prod.snd) := by
  refine ⟨zs.map Prod.fst, isL_own (E := cdS) (l := zs.map Prod.fst) (by rw [List.length_map]; exact h.own), by simp, fun i a b => ?_⟩
  have hi : i < zs.length := by simpa using a
  have := isL_own (E := E) (h.row zs[i] (List.getElem_mem hi))
  simpa using this
theorem OP.fr (h : OP E T Ts B w v zs) (f : Fr w w') : OP E T Ts B w' v zs := ⟨own_fr h.own f, fun z hz => own_fr (h.row z hz) f, h.ap⟩
theorem OP.lt (h : OP E T Ts B w v zs) {z : Sq × List α} (hz : z ∈ zs) {g : Nat} (hg : z.1.v.ownBlock = some g) : g < w.heap.size := ((h.row z hz).lt g hg).2
/-- another block was written, of another type -/
theorem OP.grownT (h : OP E T Ts B w v zs) {T' : TypeId} {r : Option Nat} (h1 : T' ≠ T) (h2 : T' ≠ Ts) (hr : ∀ g, r = some g → ∃ cur, w.heap[g]? = some (.cells cur T' (0, 0))) (hg : w.grownBy w' r) : OP E T Ts B w' v zs :=
  ⟨own_grownT h.own h2 hr hg, fun z hz => own_grownT (h.row z hz) h1 hr hg, h.ap⟩
/-- some rows instead of others -/
theorem OP.edit {A M M' C : List (Sq × List α)} (h : OP E T Ts B w v (A ++ M ++ C)) {v' : Value}
    (own : w'.ownsRow B Ts 1 v' (A ++ M' ++ C).length (flat cdS ((A ++ M' ++ C).map Prod.fst)))
    (keep : ∀ z, z ∈ A ∨ z ∈ C → w'.ownsRow B T E.k z.1.v z.2.length (flat E z.2))
    (rows : ∀ z ∈ M', w'.ownsRow B T E.k z.1.v z.2.length (flat E z.2))
    (ap : M'.Pairwise fun a b => Apart a.1.v.ownBlock b.1.v.ownBlock)
    (lie : ∀ z ∈ M', ∀ g, z.1.v.ownBlock = some g → w.heap.size ≤ g ∨ ∃ y ∈ M, y.1.v.ownBlock = some g) : OP E T Ts B w' v' (A ++ M' ++ C) := by
  have hap := h.ap
  rw [List.pairwise_append, List.pairwise_append] at hap
  obtain ⟨⟨hA, hM, hAM⟩, hC, hAC⟩ := hap
  have apart : ∀ a, (a ∈ A ∨ a ∈ C) → (∀ y ∈ M, Apart a.1.v.ownBlock y.1.v.ownBlock) → ∀ z ∈ M', Apart a.1.v.ownBlock z.1.v.ownBlock := by
    intro a ha hy z hz
    cases e : z.1.v.ownBlock with
    | none =>
      cases e2 : a.1.v.ownBlock with
      | none => exact .inl rfl
      | some g => exact .inr (by simp)
    | some g =>
      rcases lie z hz g e with h1 | ⟨y, hy1, hy2⟩
      · cases e2 : a.1.v.ownBlock with
        | none => exact .inl rfl
        | some g2 =>
          have := h.lt (z := a) (by rcases ha with ha | ha <;> simp [ha]) e2
          right
          intro e3
          simp only [Option.some.injEq] at e3
          omega
      · rw [← hy2]; exact hy y hy1
  refine ⟨own, fun z hz => ?_, ?_⟩
  · rw [List.mem_append, List.mem_append] at hz
    rcases hz with (hz | hz) | hz
    · exact keep z (.inl hz)
    · exact rows z hz
    · exact keep z (.inr hz)
  · rw [List.pairwise_append, List.pairwise_append]
    refine ⟨⟨hA, ap, fun a ha z hz => apart a (.inl ha) (fun y hy => hAM a ha y hy) z hz⟩, hC, fun a ha c hc => ?_⟩
    rw [List.mem_append] at ha
    rcases ha with ha | ha
    · exact hAC a (List.mem_append.2 (.inl ha)) c hc
    · exact (apart c (.inr hc) (fun y hy => (hAC y (List.mem_append.2 (.inr hy)) c hc).symm) a ha).symm
end
/-- a tree of the call's own, in a box -/
structure Tn (B : Nat) (w : World) (Bc : Nat) (p q : Value) (zs : List (Sq × List TK.Pr)) (ys : List (Sq × List Int)) : Prop where
  box : Blk w Bc #[p, q] 69
  base : B ≤ Bc
  l : OP cdPr 38 28 B w p zs
  u : OP cdZ 3 53 B w q ys
theorem Tn.fr {B : Nat} {w w' : World} {Bc : Nat} {p q : Value} {zs : List (Sq × List TK.Pr)} {ys : List (Sq × List Int)} (h : Tn B w Bc p q zs ys) (f : Fr w w') : Tn B w' Bc p q zs ys := ⟨h.box.fr f, h.base, h.l.fr f, h.u.fr f⟩
/-- where a row's slice lies in the row of rows -/
theorem OP.cell {α : Type} {E : Cd α} {T Ts : TypeId} {B : Nat} {w : World} {v : Value} {zs : List (Sq × List α)} (h : OP E T Ts B w v zs) {i : Nat} (hi : i < zs.length) : ∃ g c, v = .slice (some ⟨g, 0, none⟩) zs.length c ∧ zs.length ≤ c ∧ c ≤ maxLen ∧ w.cell? ⟨g, i, none⟩ = some zs[i].1.v ∧ (∀ j, w.frozen? ⟨g, j, none⟩ = false) ∧ ∃ a k, zs[i].1.v = .slice a zs[i].2.length k := by
  obtain ⟨va, vc, rfl⟩ := own_slice h.own
  obtain ⟨g, rfl, _, hc, hm, _, _, _, hf⟩ := own_parts h.own (by omega)
  refine ⟨g, vc, rfl, hc, hm, ?_, hf, ?_⟩
  · have e : (flat cdS (zs.map Prod.fst))[i]? = some zs[i].1.v := by
      have := flat_get cdS (zs.map Prod.fst) i 0 (by simpa using hi) (by decide)
      simp only [cdS, Nat.mul_one, Nat.add_zero] at this
      unfold cdS
      rw [this]
      simp [Sq.v]
    have := h.own.cells (g := g) rfl i _ e
    rwa [Addr.add_lit, Nat.zero_add] at this
  · exact own_slice (h.row _ (List.getElem_mem hi))
/-- a number in a row of numbers -/
theorem own_int {B n : Nat} {w : World} {a : Option Addr} {m k : Nat} {l : List Int} (h : w.ownsRow B 3 1 (.slice a m k) l.length (flat cdZ l)) {i : Nat} (hi : i < l.length) : ∃ g, a = some ⟨g, 0, none⟩ ∧ m = l.length ∧ w.cell? ⟨g, i, none⟩ = some (.int .i64 l[i]) ∧ (∀ j, w.frozen? ⟨g, j, none⟩ = false) ∧ l.length ≤ k := by
  obtain ⟨g, rfl, hm, hc, _, _, _, _, hf⟩ := own_parts h (by omega)
  subst hm
  refine ⟨g, rfl, rfl, ?_, hf, hc⟩
  have e : (flat cdZ l)[i]? = some (.int .i64 l[i]) := by
    have := flat_get cdZ l i 0 hi (by decide)
    simpa [cdZ] using this
  have := h.cells (g := g) rfl i _ e
  rwa [Addr.add_lit, Nat.zero_add] at this
section
variable {B : Nat} {w : World} {Bc : Nat} {p q : Value} {zs : List (Sq × List TK.Pr)} {ys : List (Sq × List Int)}
theorem size0_any (h : Tn B w Bc p q zs ys) (at_ : Nat) (ha : at_ < zs.length) : Calls Try.prog 58 #[.pointer (some ⟨Bc, 0, none⟩), .int .i64 0, .int .i64 (at_ : Int)] w fun e w' => e = .returned (.int .i64 (zs[at_].2.length : Int)) ∧ Fr w w' := by
  obtain ⟨g, c, rfl, hc, hm, hcell, _, a, k, hv⟩ := h.l.cell ha
  obtain ⟨qa, qc, rfl⟩ := own_slice h.u.own
  rw [hv] at hcell
  have x0 := h.box.cell 0 (u := .slice (some ⟨g, 0, none⟩) zs.length c) rfl
  have hlt : (at_ : Int) < (zs.length : Int) := by omega
  clear h hv
  generalize zs[at_].2.length = n at *
  go_enter Try.func58, Try.ntmps58
  go_wp2_with fail
  go_ret
  exact ⟨rfl, Fr.refl w⟩
theorem size1_any (h : Tn B w Bc p q zs ys) (lv at_ : Nat) (hl : lv < ys.length) (ha : at_ < ys[lv].2.length) (hlv : lv ≤ 1000) (z : Int) (hz : z = (lv : Int) + 1) : Calls Try.prog 58 #[.pointer (some ⟨Bc, 0, none⟩), .int .i64 z, .int .i64 (at_ : Int)] w fun e w' => e = .returned (.int .i64 ys[lv].2[at_]) ∧ Fr w w' := by
  subst hz
  obtain ⟨g, c, rfl, hc, hm, hcell, _, a, k, hv⟩ := h.u.cell hl
  obtain ⟨pa, pc, rfl⟩ := own_slice h.l.own
  have hrow := h.u.row _ (List.getElem_mem hl)
  rw [hv] at hcell hrow
  obtain ⟨g2, rfl, _, hcell2, _, _⟩ := own_int (B := B) (n := 0) hrow ha
  have x1 := h.box.cell 1 (u := .slice (some ⟨g, 0, none⟩) ys.length c) rfl
  have hlt : (lv : Int) < (ys.length : Int) := by omega
  have hlt2 : (at_ : Int) < (ys[lv].2.length : Int) := by omega
  have hne : ((lv : Int) + 1 == 0) = false := by simp; omega
  have hne2 : ¬ ((lv : Int) + 1 = 0) := by omega
  have hsb : (lv : Int) + 1 - 1 = (lv : Int) := by omega
  clear h hv hrow
  generalize ys[lv].2[at_] = x at *
  generalize ys[lv].2.length = n at *
  go_enter Try.func58, Try.ntmps58
  go_wp2_with fail
  go_ret
  exact ⟨rfl, Fr.refl w⟩
end
end Go.Proofs.Ytmemapfboefngaa
namespace Go.Proofs.Ytmemapfboefngaa
open Go.ChangeShapes Go.WideShapes Go.ChangeAt Go.RowKit
set_option linter.unusedVariables false
set_option linter.unusedSimpArgs false
set_option maxRecDepth 100000
set_option maxHeartbeats 2000000
namespace TR
theorem base_cons (x : Nat) (u : List Nat) (k : Nat) : base (x :: u) (k + 1) = x + base u k := by simp [base]
theorem base_zero (u : List Nat) : base u 0 = 0 := by simp [base]
theorem base_step {u : List Nat} {k : Nat} (h : k < u.length) : base u (k + 1) = base u k + u[k] := by
  unfold base
  rw [List.take_succ_eq_append_getElem h, List.sum_append]
  simp
theorem base_le_sum (u : List Nat) (k : Nat) : base u k ≤ u.sum := by
  have := base_le u k
  omega
theorem base_all {u : List Nat} {k : Nat} (h : u.length ≤ k) : base u k = u.sum := by
  unfold base
  rw [List.take_of_length_le h]
theorem above_is : ∀ {u : List Nat} {a k : Nat}, k < u.length → base u k ≤ a → a < base u (k + 1) → above u a = k
  | [], _, _, h, _, _ => by simp at h
  | x :: u, a, 0, _, _, h2 => by
    rw [base_cons, base_zero] at h2
    rw [above, if_pos (by omega)]
  | x :: u, a, k + 1, h, h1, h2 => by
    rw [base_cons] at h1 h2
    rw [above, if_neg (by omega), above_is (u := u) (a := a - x) (k := k) (by simpa using h) (by omega) (by omega)]
end TR
/-- numbers as they lie in memory -/
def nI (u : List Nat) : List Int := u.map (fun x : Nat => (x : Int))
theorem nI_get {u : List Nat} {i : Nat} (h : i < (nI u).length) : (nI u)[i] = (u[i]'(by simpa [nI] using h) : Int) := by simp [nI]
theorem nI_len (u : List Nat) : (nI u).length = u.length := by simp [nI]
section
variable {B : Nat} {w : World} {Bc : Nat} {p q : Value} {zs : List (Sq × List TK.Pr)} {ys : List (Sq × List Int)}
theorem above_any (h : Tn B w Bc p q zs ys) (lv at_ : Nat) (hl : lv < ys.length) (u : List Nat) (hu : ys[lv].2 = nI u) (ha : at_ < u.sum) (hs : u.sum ≤ 1000) (hn9 : u.length ≤ 1000) :
    Calls Try.prog 60 #[.pointer (some ⟨Bc, 0, none⟩), .int .i64 (lv : Int), .int .i64 (at_ : Int)] w fun e w' => e = .returned (.tuple #[.int .i64 ((TR.above u at_ : Nat) : Int), .int .i64 (((TR.base u (TR.above u at_ + 1) : Nat) : Int) - 1)]) ∧ Fr w w' := by
  obtain ⟨g, c, rfl, hc, hm, hcell, _, a, k, hv⟩ := h.u.cell hl
  obtain ⟨pa, pc, rfl⟩ := own_slice h.l.own
  have hrow := h.u.row _ (List.getElem_mem hl)
  rw [hv] at hcell hrow
  rw [hu, nI_len] at hcell
  have hrow2 : w.ownsRow B 3 1 (.slice a u.length k) (nI u).length (flat cdZ (nI u)) := by
    have e := hrow
    rw [hu, nI_len] at e
    rw [nI_len]
    exact e
  have h0 : 0 < u.length := by
    cases u with
    | nil => simp at ha
    | cons x t => simp
  have HG := hideP (fun (i : Nat) (hi : i < u.length) => own_int (B := B) (n := 0) hrow2 (i := i) (by rw [nI_len]; exact hi))
  obtain ⟨g2, rfl, _, d0, _, _⟩ := HG.out 0 h0
  rw [nI_get] at d0
  have x1 := h.box.cell 1 (u := .slice (some ⟨g, 0, none⟩) ys.length c) rfl
  have hlt : (lv : Int) < (ys.length : Int) := by omega
  have HB := hideP (fun k => TR.base_le_sum u k)
  have HS := hideP (fun (k : Nat) (hk : k < u.length) => TR.base_step hk)
  have HA := hideP (fun (k : Nat) (hk : k < u.length) h1 h2 => TR.above_is (u := u) (a := at_) (k := k) hk h1 h2)
  have HAll := hideP (fun (k : Nat) (hk : u.length ≤ k) => TR.base_all hk)
  have b1 := TR.base_step h0
  rw [TR.base_zero, Nat.zero_add, Nat.zero_add] at b1
  have hu0 : u[0] ≤ 1000 := by have := HB.out 1; omega
  have HU0 := hideP b1
  have hn1 : u.length ≤ u.sum + u.length := by omega
  have HAt := hideP ha
  have hat : at_ ≤ 1000 := by omega
  have hpos : (0 : Int) < (u.length : Int) := by omega
  clear h hv hrow hrow2 b1 hn1 hu
  obtain ⟨A, hA⟩ : ∃ A, TR.above u at_ = A := ⟨_, rfl⟩
  have HAe := hideP hA
  rw [hA]
  clear hA
  generalize hx0 : u[0] = x0 at *
  go_enter Try.func60, Try.ntmps60
  go_wp2_with fail
  go_loopw [6, 7] (fun nv kv wr => ∃ k : Nat, nv = .int .i64 (k : Int) ∧ kv = .int .i64 (((TR.base u (k + 1) : Nat) : Int) - 1) ∧ k < u.length ∧ TR.base u k ≤ at_ ∧ wr = w) (fun nv _ _ => u.length - (intOf nv).toNat)
  case atStart => exact ⟨0, rfl, by rw [HU0.out], h0, by rw [TR.base_zero]; exact Nat.zero_le _, rfl⟩
  case round =>
    obtain ⟨k, rfl, rfl, hk, hbk, rfl⟩ := hrel
    have hbb := HB.out (k + 1)
    by_cases hlt2 : TR.base u (k + 1) ≤ at_
    case neg =>
      have he := HA.out k hk hbk (by omega)
      rw [HAe.out] at he
      subst he
      have hlt3 : (((TR.base u (A + 1) : Nat) : Int) - 1 < (at_ : Int)) = False := by simp; omega
      generalize hb : TR.base u (A + 1) = b at *
      have HBe := hideP hb
      clear hb
      go_wp2_with fail
      go_ret2
      exact ⟨by rw [HBe.out]; rfl, Fr.refl _⟩
    have hk2 : k + 1 < u.length := by
      rcases Nat.lt_or_ge (k + 1) u.length with h | h
      · exact h
      · have e1 := HAll.out (k + 1) h
        have e2 := HAt.out
        omega
    obtain ⟨_, hge, _, d1, _, _⟩ := HG.out (k + 1) hk2
    cases hge
    rw [nI_get] at d1
    have hst := HS.out (k + 1) hk2
    have hbc := HB.out (k + 1 + 1)
    have hlt3 : ((TR.base u (k + 1) : Nat) : Int) - 1 < (at_ : Int) := by omega
    have hk3 : (k : Int) + 1 < (u.length : Int) := by omega
    have hw1 : IntKind.i64.wrap ((k : Int) + 1) = (k : Int) + 1 := by rw [IntKind.wrap_i64]; omega
    generalize u[k + 1] = x at *
    have HST := hideP hst
    have HK2 := hideP hk2
    have HLE := hideP hlt2
    have hbx : ((TR.base u (k + 1) : Nat) : Int) - 1 + (x : Int) ≤ 2000 := by omega
    have hbx2 : (-1 : Int) ≤ ((TR.base u (k + 1) : Nat) : Int) - 1 + (x : Int) := by omega
    clear hst hbc hbb hlt2 hk2
    generalize hb : TR.base u (k + 1) = b at *
    have HBe := hideP hb
    clear hb
    go_wp2_with fail
    go_roundw
    case rel => exact ⟨k + 1, by go_num, by rw [HST.out]; first | (go_num; done) | (simp; omega), HK2.out, by rw [HBe.out]; exact HLE.out, by first | rfl | trivial⟩
    case measure => simp [intOf]; omega
end
end Go.Proofs.Ytmemapfboefngaa
