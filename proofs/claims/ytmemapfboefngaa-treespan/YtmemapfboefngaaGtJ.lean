/-
  What belongs together: TtS, TtT.
-/
import Derived.Test.YtmemapfboefngaaGtI
namespace Go.Proofs.Ytmemapfboefngaa
set_option linter.unusedVariables false
set_option linter.unusedSimpArgs false
set_option maxRecDepth 100000
namespace TK
theorem uE_lv : ∀ {U : List (List Int)} {n : Nat}, uE n U = 0 → (n ≤ 1 ∧ U = []) ∨ (2 ≤ n ∧ ∃ Un : List (List Nat), U = Un.map nI ∧ TR.Lv n Un)
  | [], n, h => by
    left
    unfold uE at h
    split at h
    · cases h
    · exact ⟨by omega, rfl⟩
  | u :: us, n, h => by
    right
    unfold uE at h
    split at h
    · cases h
    rename_i hb
    split at h
    · cases h
    rename_i ha
    split at h
    · cases h
    rename_i hs
    have hs' : u.sum = (n : Int) := by
      rcases Decidable.em (u.sum = (n : Int)) with e | e
      · exact e
      · exact absurd e hs
    have hall : ∀ x ∈ u, 2 ≤ x ∧ x ≤ 4 := by
      intro x hx
      simp only [List.any_eq_true, not_exists, not_and] at ha
      have := ha x hx
      simp at this
      omega
    obtain ⟨un, rfl⟩ : ∃ un : List Nat, u = nI un := by
      refine ⟨u.map Int.toNat, ?_⟩
      unfold nI
      rw [List.map_map]
      conv => lhs; rw [← List.map_id u]
      refine List.map_congr_left fun x hx => ?_
      have := (hall x hx).1
      simp only [id, Function.comp]
      omega
    have hsum : ∀ l : List Nat, (nI l).sum = ((l.sum : Nat) : Int) := by
      intro l
      induction l with
      | nil => rfl
      | cons x r ih =>
        show (x : Int) + (nI r).sum = _
        rw [ih]
        simp
    rw [hsum] at hs'
    have hun : ∀ x ∈ un, 2 ≤ x ∧ x ≤ 4 := by
      intro x hx
      have := hall (x : Int) (by unfold nI; exact List.mem_map.2 ⟨x, hx, rfl⟩)
      omega
    rw [nI_len] at h
    refine ⟨by omega, ?_⟩
    rcases uE_lv h with ⟨h1, h2⟩ | ⟨h1, Us, h2, h3⟩
    · subst h2
      refine ⟨[un], rfl, by omega, hun, ?_⟩
      have hb2 := TR.sum_bounds hun
      show un.length = 1
      omega
    · exact ⟨un :: Us, by rw [h2]; rfl, by omega, hun, h3⟩
theorem lE_sz {many : Nat} : ∀ {L : List (List Pr)} {st : Option ByteArray}, er (lE many st L) = 0 → ∀ r ∈ L, szOk many r.length = true
  | [], _, _, r, hr => by cases hr
  | l :: t, st, h, r, hr => by
    rw [lE_step] at h
    split at h
    · cases h
    · rename_i hz
      have hz' : szOk many l.length = true := by simpa using hz
      rcases List.mem_cons.1 hr with rfl | hr
      · exact hz'
      · cases hp : pE st l with
        | error c =>
          rw [hp] at h
          exact absurd h (pE_ne hp)
        | ok s =>
          rw [hp] at h
          exact lE_sz (st := s) h r hr
/-- a tree that Check finds right -/
theorem right_of {L : List (List Pr)} {U : List (List Int)} (h : chk L U = 0) : ∃ Un : List (List Nat), U = Un.map nI ∧ TR.Right L Un ∧ Un.length ≤ 8 ∧ L.length ≤ 64 ∧ L.flatten.length ≤ 64 := by
  obtain ⟨h1, h2, h3, h4, h5⟩ := chk_ok h
  have hsz := lE_sz h3
  rcases uE_lv h4 with ⟨a1, a2⟩ | ⟨a1, Un, a2, a3⟩
  · subst a2
    refine ⟨[], rfl, ?_, by simp, h1, h5⟩
    by_cases h0 : L = []
    · exact .inl ⟨h0, rfl⟩
    · right
      have hl : L.length = 1 := by
        have : L.length ≠ 0 := fun e => h0 (List.length_eq_zero_iff.1 e)
        omega
      obtain ⟨l, rfl⟩ := List.length_eq_one_iff.mp hl
      refine ⟨rfl, ?_⟩
      have := hsz l (by simp)
      simp [szOk] at this
      by_cases h6 : l.length = 1
      · right; simp [TR.sz, h6]
      · left
        intro x hx
        simp only [TR.sz, List.map_cons, List.map_nil, List.mem_singleton] at hx
        subst hx
        have h7 : l.length ≠ 0 := fun e => this.1 (List.length_eq_zero_iff.1 e)
        omega
  · refine ⟨Un, a2, .inr ⟨a3, .inl fun x hx => ?_⟩, ?_, h1, h5⟩
    · unfold TR.sz at hx
      obtain ⟨r, hr, rfl⟩ := List.mem_map.1 hx
      have := hsz r hr
      simp [szOk] at this
      have h7 : r.length ≠ 0 := fun e => this.1.1 (List.length_eq_zero_iff.1 e)
      omega
    · have := congrArg List.length a2
      rw [List.length_map] at this
      omega
end TK
namespace TR
theorem lv_sm : ∀ {U : List (List Nat)} {n : Nat}, Lv n U → n ≤ 65 → ∀ u ∈ U, Sm 65 u
  | [], _, _, _, u, hu => by cases hu
  | v :: us, n, h, hn, u, hu => by
    obtain ⟨l1, l2, l3⟩ := h
    have hb := sum_bounds l2
    rcases List.mem_cons.1 hu with rfl | hu
    · exact ⟨by omega, fun x hx => by have := l2 x hx; omega⟩
    · exact lv_sm l3 (by omega) u hu
section
variable {P : Type} {L : List (List P)} {U : List (List Nat)} {a : Nat} {l : List P}
theorem putL_len (h : a < L.length) : (putL L a l).length = L.length := by rw [← sz_len, sz_put, put_length (by rw [sz_len]; exact h), sz_len]
theorem putL_get (h : a < L.length) : (putL L a l).getD a [] = l := by
  simp only [putL, List.getD_eq_getElem?_getD]
  rw [List.getElem?_append_right (by simp; omega)]
  simp [show a - min a L.length = 0 by omega]
theorem right_sm (hR : Right L U) (hn : L.length ≤ 64) : Sm 64 (sz L) := by
  refine ⟨by rw [sz_len]; exact hn, fun x hx => ?_⟩
  rcases hR with ⟨rfl, _⟩ | ⟨_, hR | hR⟩
  · simp [sz] at hx
  · have := hR x hx; omega
  · rw [hR] at hx; simp at hx; omega
theorem right_rest (hR : Right L U) (h : a < L.length) : Rest (sz L) a ∧ (L.getD a []).length ≤ 4 ∧ 1 ≤ (L.getD a []).length ∧ (U ≠ [] → 2 ≤ (L.getD a []).length) ∧ Lv L.length U := by
  have ha : a < (sz L).length := by rw [sz_len]; exact h
  have hs := sz_get L a
  rcases hR with ⟨rfl, _⟩ | ⟨hv, hR | hR⟩
  · simp at h
  · have := get_all hR ha
    exact ⟨all_rest hR a, by omega, by omega, fun _ => by omega, hv⟩
  · have h1 : a = 0 := by rw [hR] at ha; simpa using ha
    subst h1
    rw [hR] at hs
    simp only [List.getD_cons_zero] at hs
    refine ⟨fun x hx => by rw [hR] at hx; simp at hx, by omega, by omega, fun hU => ?_, hv⟩
    exfalso
    have hl : L.length = 1 := by rw [← sz_len, hR]; rfl
    rw [hl] at hv
    cases U with
    | nil => exact hU rfl
    | cons u us =>
      have hb := sum_bounds hv.2.1
      have h1 := hv.1
      have ht := (tall hv.2.2).1
      have := Nat.two_pow_pos us.length
      omega
/-- a leaf with one pair more -/
theorem gi_first (hR : Right L U) (hn : L.length ≤ 64) (hU : U.length ≤ 8) (h : a < L.length) (hl : l.length = (L.getD a []).length + 1) :
    GI (growT (putL L a l) U a).1 (growT (putL L a l) U a).2 0 a (putL L a l) U [] (sz (putL L a l)) U := by
  obtain ⟨r1, r2, r3, r4, r5⟩ := right_rest hR h
  have ha : a < (sz L).length := by rw [sz_len]; exact h
  have hg : (sz (putL L a l)).getD a 0 = l.length := by rw [sz_get, putL_get h]
  have hsm := right_sm hR hn
  refine ⟨rfl, rfl, by rw [sz_len, putL_len h]; exact h, by rw [sz_put]; exact put_rest ha r1, by rw [hg]; omega, by rw [sz_len, putL_len h]; exact r5, ?_, ?_, fun r hr => (by cases hr), ?_, lv_sm r5 (by omega), by simp; omega⟩
  · show sz (growT (putL L a l) U a).1 :: (growT (putL L a l) U a).2 = [] ++ _
    rw [growT_sz]
    rfl
  · rw [hg]
    simp only [growT, putL_get h]
    by_cases h4 : l.length ≤ 4
    · rw [if_pos h4, if_neg (by omega)]
    · rw [if_neg h4, if_pos (by first | exact ⟨rfl, by omega⟩ | exact ⟨trivial, by omega⟩)]
  · rw [sz_put]
    exact (hsm.put ha (by omega)).mono (by decide)
/-- the first leaf of all -/
theorem gi_zero (p : P) : GI [[p]] [] 0 0 [[p]] [] [] [1] [] := by
  refine ⟨rfl, rfl, by simp, fun x hx => by simp at hx, by simp, rfl, rfl, rfl, fun r hr => (by cases hr), ⟨by simp, by simp⟩, fun r hr => (by cases hr), by simp⟩
/-- a leaf with one pair less -/
theorem si_first (hR : Right L U) (hn : L.length ≤ 64) (hU : U.length ≤ 8) (h : a < L.length) (hl : l.length + 1 = (L.getD a []).length) :
    SI (shrinkL (putL L a l) U a) (shrink (sz (putL L a l)) U a).2 0 a (putL L a l) U [] (sz (putL L a l)) U ∧ TR.fT (shrinkL (putL L a l) U a) (shrink (sz (putL L a l)) U a).2 = shrinkT (putL L a l) U a := by
  obtain ⟨r1, r2, r3, r4, r5⟩ := right_rest hR h
  have ha : a < (sz L).length := by rw [sz_len]; exact h
  have hg : (sz (putL L a l)).getD a 0 = l.length := by rw [sz_get, putL_get h]
  have hsm := right_sm hR hn
  have hv : Lv (putL L a l).length U := by rw [putL_len h]; exact r5
  obtain ⟨i1, i2⟩ := shrinkL_is (L := putL L a l) (a := a) (by rw [putL_len h]; exact h) hv
  refine ⟨⟨rfl, rfl, by rw [sz_len, putL_len h]; exact h, by rw [sz_put]; exact put_rest ha r1, fun e => by rw [hg]; have := r4 e; omega, by rw [hg]; omega, by rw [sz_len]; exact hv, ?_, by rw [if_pos rfl], ?_, fun r hr => (by cases hr), ?_, lv_sm r5 (by omega), by simp; omega⟩, rfl⟩
  · show sz (shrinkL (putL L a l) U a) :: (shrink (sz (putL L a l)) U a).2 = [] ++ T 0 _ U a
    unfold T
    rw [if_neg (by simp), i1]
    rfl
  · intro e
    have hne : U ≠ [] := by
      rcases e with e | e
      · exact e
      · omega
    have := (shrink_right U (sz (putL L a l)) a (by rw [sz_len, putL_len h]; exact h) (by rw [sz_put]; exact put_rest ha r1) (by rw [hg]; have := r4 hne; omega) (by rw [hg]; omega) (by rw [sz_len]; exact hv)).1 hne
    rw [i1]
    intro e0
    have h2 := this 0 (by rw [e0]; simp)
    omega
  · rw [sz_put]
    exact (hsm.put ha (by omega)).mono (by decide)
end
end TR
end Go.Proofs.Ytmemapfboefngaa
namespace Go.Proofs.Ytmemapfboefngaa
open Go.ChangeShapes Go.WideShapes Go.ChangeAt Go.RowKit
set_option linter.unusedVariables false
set_option linter.unusedSimpArgs false
set_option maxRecDepth 100000
set_option maxHeartbeats 4000000
section
variable {B : Nat} {w : World} {Bc : Nat} {p q : Value} {zs : List (Sq × List TK.Pr)} {ys : List (Sq × List Int)}
/-- a leaf instead of another one, its slice told anew -/
theorem Tn.edit2 (h : Tn B w Bc p q zs ys) (hB : B ≤ w.heap.size) {lv : Nat} (hl : lv < zs.length) {g c : Nat} (hq : p = .slice (some ⟨g, 0, none⟩) zs.length c) {wA w3 : World} {ob : Option Nat} (hob : zs[lv].1.v.ownBlock = ob) (fA : Fr w wA) (hG : wA.grownBy w3 ob)
    (s' : Sq) (l' : List TK.Pr) (own3 : w3.ownsRow B 38 2 s'.v l'.length (flat cdPr l')) (lies : Lies wA ob s'.v) :
    Tn B (w3.setCell ⟨g, lv, none⟩ s'.v) Bc p q (zs.set lv (s', l')) ys ∧ Below B w (w3.setCell ⟨g, lv, none⟩ s'.v) := by
  subst hq
  have hA := h.fr fA
  have hrow := hA.l.row _ (List.getElem_mem hl)
  have hobt : ∀ k, ob = some k → ∃ cur, wA.heap[k]? = some (.cells cur 38 (0, 0)) := fun k hk => own_block hrow k (hob.trans hk)
  have hs := grownBy_setCell w3 g lv s'.v
  have hq3 : w3.ownsRow B 28 1 (.slice (some ⟨g, 0, none⟩) zs.length c) zs.length (flat cdS (zs.map Prod.fst)) := own_grownT hA.l.own (T' := 38) (by decide) hobt hG
  have hgt : ∀ k, some g = some k → ∃ cur, w3.heap[k]? = some (.cells cur 28 (0, 0)) := fun k hk => by
    cases hk
    exact own_block hq3 g rfl
  have hobB : ob ≠ some Bc := by
    intro e
    obtain ⟨cur, hc⟩ := hobt Bc e
    exact absurd (hA.box.ty hc) (by decide)
  have hb3 : Blk w3 Bc _ 69 := hA.box.grown hG hobB
  have hgB : g ≠ Bc := by
    intro e
    obtain ⟨cur, hc⟩ := hgt g rfl
    rw [e] at hc
    exact absurd (hb3.ty hc) (by decide)
  have hlen : (zs.set lv (s', l')).length = zs.length := by simp
  refine ⟨⟨hb3.other hgB lv s'.v, h.base, ?_, (hA.u.grownT (T' := 38) (by decide) (by decide) hobt hG).grownT (T' := 28) (by decide) (by decide) hgt hs⟩, ?_⟩
  · have hsp := get_split hl
    have hap := h.l.ap
    rw [hsp, List.pairwise_append, List.pairwise_append] at hap
    obtain ⟨⟨_, _, hAM⟩, _, hAC⟩ := hap
    have hu := h.l
    rw [hsp] at hu
    rw [set_split hl]
    refine hu.edit (M' := [(s', l')]) ?_ ?_ ?_ (List.pairwise_singleton _ _) ?_
    · rw [← set_split hl, hlen]
      have e1 : flat cdS ((zs.set lv (s', l')).map Prod.fst) = (flat cdS (zs.map Prod.fst)).set lv s'.v := by
        rw [List.map_set]
        have hone : ∀ l : List Sq, flat cdS l = l.map Sq.v := fun l => by
          induction l with
          | nil => rfl
          | cons x r ih => rw [flat_cons, ih]; rfl
        rw [hone, hone, List.map_set]
      rw [e1]
      exact (hq3.stored lv s'.v).1
    · intro z hz
      have hz' : z ∈ zs := by
        rcases hz with hz | hz
        · exact List.mem_of_mem_take hz
        · exact List.mem_of_mem_drop hz
      have hap2 : Apart z.1.v.ownBlock ob := by
        rw [← hob]
        rcases hz with hz | hz
        · exact hAM z hz _ (by simp)
        · exact (hAC _ (List.mem_append.2 (.inr (by simp))) z hz).symm
      have r1 := hA.l.row z hz'
      have r2 := r1.kept hG (by rcases hap2 with h | h; exact .inl h; exact .inr h)
      exact own_grownT r2 (T' := 28) (by decide) hgt hs
    · intro z hz
      simp only [List.mem_singleton] at hz
      subst hz
      exact own_grownT own3 (T' := 28) (by decide) hgt hs
    · intro z hz k hk
      simp only [List.mem_singleton] at hz
      subst hz
      rcases lies with e | ⟨k2, e, hk2⟩
      · right
        exact ⟨_, List.mem_singleton.2 rfl, by rw [hob, ← e]; exact hk⟩
      · left
        have e2 : s'.v.ownBlock = some k := hk
        rw [e] at e2
        cases e2
        exact Nat.le_trans fA.size hk2
  · have hb : ∀ k, ob = some k → B ≤ k := fun k hk => (hrow.lt k (hob.trans hk)).1
    have hgb : B ≤ g := (h.l.own.lt g rfl).1
    exact Below.trans (Below.mono fA hB) (Below.trans (b := w3) ⟨hG.os, hG.tape, hG.output, hG.size, fun k hk => hG.block k (by have := fA.size; omega) (fun e => by have := hb k e.symm; omega)⟩ (Below.setCell (Below.refl B w3) hgb s'.v))
end
section
variable {B : Nat} {w w' : World} {Bc : Nat} {L : List (List TK.Pr)} {U : List (List Nat)}
/-- a leaf: where its slice lies, and the tree behind a store there -/
theorem Tr.leaf (h : Tr B w Bc L U) (k : Nat) (hk : k < L.length) : ∃ g c s, w.cell? ⟨Bc, 0, none⟩ = some (.slice (some ⟨g, 0, none⟩) L.length c) ∧ w.cell? ⟨g, k, none⟩ = some (Sq.v s) ∧ s.n = (L[k]).length ∧ w.ownsRow B 38 2 s.v (L[k]).length (flat cdPr L[k]) ∧ g < w.heap.size ∧
    (∀ (wA w3 : World), Fr w wA → wA.grownBy w3 s.v.ownBlock → w3.cell? ⟨Bc, 0, none⟩ = some (.slice (some ⟨g, 0, none⟩) L.length c) ∧ w3.cell? ⟨g, k, none⟩ = some (Sq.v s) ∧ w3.frozen? ⟨g, k, none⟩ = false) ∧
    ∀ (wA w3 : World) (s' : Sq) (l' : List TK.Pr), Fr w wA → wA.grownBy w3 s.v.ownBlock → w3.ownsRow B 38 2 s'.v l'.length (flat cdPr l') → Lies wA s.v.ownBlock s'.v →
      Tr B (w3.setCell ⟨g, k, none⟩ s'.v) Bc (TR.putL L k l') U ∧ Below B w (w3.setCell ⟨g, k, none⟩ s'.v) := by
  obtain ⟨p, q, zs, ys, h1, h2, h3⟩ := h
  have l1 := congrArg List.length h2
  simp only [List.length_map] at l1
  have hl : k < zs.length := by omega
  have hy := map_get h2 hl hk
  obtain ⟨g, c, rfl, hc, hm, hcell, hfz, av, kv, hv⟩ := h1.l.cell hl
  have hrow := h1.l.row _ (List.getElem_mem hl)
  have x0 := h1.box.cell 0 (u := .slice (some ⟨g, 0, none⟩) zs.length c) rfl
  have hg := (h1.l.own.lt g rfl).2
  have hB : B ≤ w.heap.size := by have := h1.base; have := h1.box.lt; omega
  refine ⟨g, c, zs[k].1, by rw [x0, l1], hcell, ?_, by rw [← hy]; exact hrow, hg, fun wA w3 fA hG => ?_, fun wA w3 s' l' fA hG hO hL => ?_⟩
  · rw [← hy]
    have : Sq.v zs[k].1 = .slice av zs[k].2.length kv := hv
    unfold Sq.v at this
    injection this
  · have hA := h1.fr fA
    have hrA := hA.l.row _ (List.getElem_mem hl)
    have hobt : ∀ j, zs[k].1.v.ownBlock = some j → ∃ cur, wA.heap[j]? = some (.cells cur 38 (0, 0)) := fun j hj => own_block hrA j hj
    have hbB : zs[k].1.v.ownBlock ≠ some Bc := by
      intro e
      obtain ⟨cur, hcu⟩ := hobt Bc e
      exact absurd (hA.box.ty hcu) (by decide)
    have hgne : some g ≠ zs[k].1.v.ownBlock := by
      intro e
      obtain ⟨cur, hcu⟩ := hobt g e.symm
      obtain ⟨cur2, hcu2⟩ := own_block hA.l.own g rfl
      rw [hcu] at hcu2
      injection hcu2 with e
      injection e with _ e _
      exact absurd e (by decide)
    have hb3 := hA.box.grown hG hbB
    have hgA : g < wA.heap.size := Nat.lt_of_lt_of_le hg fA.size
    have hb := hG.block g hgA hgne
    obtain ⟨t1, t2⟩ := c1f_after fA ⟨hcell, hfz k⟩
    exact ⟨by rw [hb3.cell 0 (u := .slice (some ⟨g, 0, none⟩) zs.length c) rfl, l1], (World.cell?_of_block (a := ⟨g, k, none⟩) hb).trans t1, (World.frozen?_of_block (a := ⟨g, k, none⟩) hb).trans t2⟩
  · have := h1.edit2 hB hl rfl rfl fA hG s' l' hO hL
    refine ⟨⟨_, q, _, ys, this.1, ?_, h3⟩, this.2⟩
    rw [List.map_set, h2]
    unfold TR.putL
    rw [List.set_eq_take_append_cons_drop, if_pos hk]
end
end Go.Proofs.Ytmemapfboefngaa
