/-
  What cut and join of package tree do to the levels above the leaves.
-/
import Derived.Test.YtmemapfboefngaaTtI
namespace Go.Proofs.Ytmemapfboefngaa
open Go.ChangeShapes Go.WideShapes Go.ChangeAt Go.RowKit
set_option linter.unusedVariables false
set_option linter.unusedSimpArgs false
set_option maxRecDepth 100000
set_option maxHeartbeats 2000000
theorem grownBy_setCell (w : World) (g i : Nat) (u : Value) : w.grownBy (w.setCell ⟨g, i, none⟩ u) (some g) := ⟨rfl, rfl, rfl, by simp [World.setCell], fun k _ hk => Below.heap_setCell _ _ _ _ (fun e => hk (by rw [e]))⟩
theorem set_split {α : Type} {l : List α} {i : Nat} (h : i < l.length) (x : α) : l.set i x = l.take i ++ [x] ++ l.drop (i + 1) := by
  rw [List.append_assoc, List.singleton_append, List.set_eq_take_append_cons_drop, if_pos h]
theorem get_split {α : Type} {l : List α} {i : Nat} (h : i < l.length) : l = l.take i ++ [l[i]] ++ l.drop (i + 1) := by
  rw [List.append_assoc, List.singleton_append, ← List.drop_eq_getElem_cons h, List.take_append_drop]
section
variable {B : Nat} {w : World} {Bc : Nat} {p q : Value} {zs : List (Sq × List TK.Pr)} {ys : List (Sq × List Int)}
/-- a level instead of another one -/
theorem Tn.edit1 (h : Tn B w Bc p q zs ys) (hB : B ≤ w.heap.size) {lv : Nat} (hl : lv < ys.length) {g c : Nat} (hq : q = .slice (some ⟨g, 0, none⟩) ys.length c) {wA w3 : World} {ob : Option Nat} (hob : ys[lv].1.v.ownBlock = ob) (fA : Fr w wA) (hG : wA.grownBy w3 ob)
    (s' : Sq) (l' : List Int) (own3 : w3.ownsRow B 3 1 s'.v l'.length (flat cdZ l')) (lies : Lies wA ob s'.v) :
    Tn B (w3.setCell ⟨g, lv, none⟩ s'.v) Bc p q zs (ys.set lv (s', l')) ∧ Below B w (w3.setCell ⟨g, lv, none⟩ s'.v) := by
  subst hq
  have hA := h.fr fA
  have hrow := hA.u.row _ (List.getElem_mem hl)
  have hobt : ∀ k, ob = some k → ∃ cur, wA.heap[k]? = some (.cells cur 3 (0, 0)) := fun k hk => own_block hrow k (hob.trans hk)
  have hs := grownBy_setCell w3 g lv s'.v
  have hq3 : w3.ownsRow B 53 1 (.slice (some ⟨g, 0, none⟩) ys.length c) ys.length (flat cdS (ys.map Prod.fst)) := own_grownT hA.u.own (T' := 3) (by decide) hobt hG
  have hgt : ∀ k, some g = some k → ∃ cur, w3.heap[k]? = some (.cells cur 53 (0, 0)) := fun k hk => by
    cases hk
    exact own_block hq3 g rfl
  have hobB : ob ≠ some Bc := by
    intro e
    obtain ⟨cur, hc⟩ := hobt Bc e
    exact absurd (hA.box.ty hc) (by decide)
  have hb3 : Blk w3 Bc _ 69 := hA.box.grown hG hobB
  have hgB : g ≠ Bc := by
    intro e
    obtain ⟨cur, hc⟩ := hgt g rfl
    rw [e] at hc
    exact absurd (hb3.ty hc) (by decide)
  have hlen : (ys.set lv (s', l')).length = ys.length := by simp
  refine ⟨⟨hb3.other hgB lv s'.v, h.base, (hA.l.grownT (T' := 3) (by decide) (by decide) hobt hG).grownT (T' := 53) (by decide) (by decide) hgt hs, ?_⟩, ?_⟩
  · have hsp := get_split hl
    have hap := h.u.ap
    rw [hsp, List.pairwise_append, List.pairwise_append] at hap
    obtain ⟨⟨_, _, hAM⟩, _, hAC⟩ := hap
    have hu := h.u
    rw [hsp] at hu
    rw [set_split hl]
    refine hu.edit (M' := [(s', l')]) ?_ ?_ ?_ (List.pairwise_singleton _ _) ?_
    · rw [← set_split hl, hlen]
      have e1 : flat cdS ((ys.set lv (s', l')).map Prod.fst) = (flat cdS (ys.map Prod.fst)).set lv s'.v := by
        rw [List.map_set]
        have hone : ∀ l : List Sq, flat cdS l = l.map Sq.v := fun l => by
          induction l with
          | nil => rfl
          | cons x r ih => rw [flat_cons, ih]; rfl
        rw [hone, hone, List.map_set]
      rw [e1]
      exact (hq3.stored lv s'.v).1
    · intro z hz
      have hz' : z ∈ ys := by
        rcases hz with hz | hz
        · exact List.mem_of_mem_take hz
        · exact List.mem_of_mem_drop hz
      have hap2 : Apart z.1.v.ownBlock ob := by
        rw [← hob]
        rcases hz with hz | hz
        · exact hAM z hz _ (by simp)
        · exact (hAC _ (List.mem_append.2 (.inr (by simp))) z hz).symm
      have r1 := hA.u.row z hz'
      have r2 := r1.kept hG (by rcases hap2 with h | h; exact .inl h; exact .inr h)
      exact own_grownT r2 (T' := 53) (by decide) hgt hs
    · intro z hz
      simp only [List.mem_singleton] at hz
      subst hz
      exact own_grownT own3 (T' := 53) (by decide) hgt hs
    · intro z hz k hk
      simp only [List.mem_singleton] at hz
      subst hz
      rcases lies with e | ⟨k2, e, hk2⟩
      · right
        exact ⟨_, List.mem_singleton.2 rfl, by rw [hob, ← e]; exact hk⟩
      · left
        have e2 : s'.v.ownBlock = some k := hk
        rw [e] at e2
        cases e2
        exact Nat.le_trans fA.size hk2
  · have hb : ∀ k, ob = some k → B ≤ k := fun k hk => (hrow.lt k (hob.trans hk)).1
    have hgb : B ≤ g := (h.u.own.lt g rfl).1
    exact Below.trans (Below.mono fA hB) (Below.trans (b := w3) ⟨hG.os, hG.tape, hG.output, hG.size, fun k hk => hG.block k (by have := fA.size; omega) (fun e => by have := hb k e.symm; omega)⟩ (Below.setCell (Below.refl B w3) hgb s'.v))
/-- numbers instead of others in a level -/
theorem repI_any {W0 W : World} {s : Sq} {l : List Int} (hs : W0.ownsRow B 3 1 s.v l.length (flat cdZ l)) (f : Fr W0 W) (hB : B ≤ W0.heap.size) (at_ j : Nat) (jz : Int) (hjz : jz = (j : Int)) (new : List Int) (m : Nat) (hm : new.length = m) (hj : j ≤ l.length) (hn : l.length ≤ 1000) (hk : (j = at_ + 1 ∧ m = 2) ∨ (j = at_ + 2 ∧ m = 1)) (arr : Array Value) (harr : arr.toList = flat cdZ new) :
    Calls Try.prog 73 #[s.v, .int .i64 (at_ : Int), .int .i64 jz, .slice (some ⟨W.heap.size, 0, none⟩) m m] (W.alloc (.cells arr 3)) fun e w' => ∃ v', e = .returned v' ∧ w'.ownsRow B 3 1 v' (l.take at_ ++ new ++ l.drop j).length (flat cdZ (l.take at_ ++ new ++ l.drop j)) ∧ (W.alloc (.cells arr 3)).grownBy w' s.v.ownBlock ∧ Lies (W.alloc (.cells arr 3)) s.v.ownBlock v' := by
  have hb := Blk.new W arr 3
  have hsz := f.size
  have f2 : Fr W0 (W.alloc (.cells arr 3)) := f.alloc _
  have hne : s.v.ownBlock ≠ some W.heap.size := fun e => by
    have := (hs.lt _ e).2
    omega
  subst hm
  have hx : arr.size ≠ 0 := by
    have e := congrArg List.length harr
    rw [flat_len, Array.length_toList] at e
    have : cdZ.k = 1 := rfl
    rw [this] at e
    omega
  refine (replaceI_any s.v l new at_ j jz hjz B W.heap.size new.length _ (own_fr hs f2) (by have := f2.size; omega) hj hn (lit_blk cdZ hb harr) _ hb hx s.v.ownBlock rfl hne hk).mono ?_
  rintro e w' ⟨v', h1, h2, h3, h4⟩
  refine ⟨v', h1, ?_, h3, h4⟩
  have e1 : (l.take at_ ++ new ++ l.drop j).length = at_ + new.length + (l.length - j) := by
    simp only [List.length_append, List.length_take, List.length_drop]
    omega
  rw [e1]
  exact h2
theorem nI_cut {u : List Nat} {a f : Nat} (ha : a < u.length) (hf : f ≤ u[a]) : (nI u).take a ++ [(f : Int), (u[a] : Int) - (f : Int)] ++ (nI u).drop (a + 1) = nI (TR.cut u a f) := by
  have e : u.getD a 0 = u[a] := by simp [List.getD_eq_getElem?_getD, ha]
  have e2 : (u[a] : Int) - (f : Int) = ((u[a] - f : Nat) : Int) := by omega
  unfold TR.cut nI
  rw [e, e2]
  simp [List.map_take, List.map_drop]
theorem nI_join {u : List Nat} {a : Nat} (ha : a + 1 < u.length) : (nI u).take a ++ [(u[a] : Int) + (u[a + 1] : Int)] ++ (nI u).drop (a + 2) = nI (TR.join u a) := by
  have e : u.getD a 0 = u[a] := by simp [List.getD_eq_getElem?_getD, show a < u.length by omega]
  have e2 : u.getD (a + 1) 0 = u[a + 1] := by simp [List.getD_eq_getElem?_getD, ha]
  unfold TR.join nI
  rw [e, e2]
  simp [List.map_take, List.map_drop]
theorem cut1_any (h : Tn B w Bc p q zs ys) (hB : B ≤ w.heap.size) (lv at_ f : Nat) (hl : lv < ys.length) (hlv : lv ≤ 1000) (u : List Nat) (hu : ys[lv].2 = nI u) (ha : at_ < u.length) (hn : u.length ≤ 1000) (hf : f ≤ u[at_]) (hub : u[at_] ≤ 1000) (z : Int) (hz : z = (lv : Int) + 1) :
    Calls Try.prog 59 #[.pointer (some ⟨Bc, 0, none⟩), .int .i64 z, .int .i64 (at_ : Int), .int .i64 (f : Int)] w fun e w' => ∃ s', e = .returned (.tuple #[]) ∧ Tn B w' Bc p q zs (ys.set lv (s', nI (TR.cut u at_ f))) ∧ Below B w w' := by
  subst hz
  obtain ⟨g, c, rfl, hc, hm, hcell, hfz, a, k, hv⟩ := h.u.cell hl
  obtain ⟨pa, pc, rfl⟩ := own_slice h.l.own
  have hrow := h.u.row _ (List.getElem_mem hl)
  rw [hu] at hrow
  have hrow2 := hrow
  rw [hv, hu] at hrow
  obtain ⟨g2, rfl, _, hcell2, _, _⟩ := own_int (B := B) (n := 0) hrow (i := at_) (by rw [nI_len]; exact ha)
  rw [nI_get] at hcell2
  have hvs := hv
  rw [hu, nI_len] at hv
  rw [hv] at hcell
  have HRep := hideP (fun W (fw : Fr w W) => repI_any (s := ys[lv].1) (l := nI u) hrow2 fw hB at_ (at_ + 1) ((at_ : Int) + 1) (by simp) [(f : Int), (u[at_] : Int) - (f : Int)] 2 rfl (by rw [nI_len]; omega) (by rw [nI_len]; exact hn) (.inl ⟨rfl, rfl⟩) #[.int .i64 (f : Int), .int .i64 ((u[at_] : Int) - (f : Int))] rfl)
  rw [hv, nI_cut ha hf] at HRep
  have HT := hideP h
  have HOb := hideP (congrArg Value.ownBlock hv)
  have x1 := h.box.cell 1 (u := .slice (some ⟨g, 0, none⟩) ys.length c) rfl
  have hlt : (lv : Int) < (ys.length : Int) := by omega
  have hlt2 : (at_ : Int) < (u.length : Int) := by omega
  have hne : ((lv : Int) + 1 == 0) = false := by simp; omega
  have hne2 : ¬ ((lv : Int) + 1 = 0) := by omega
  have hsb : (lv : Int) + 1 - 1 = (lv : Int) := by omega
  have hw1 : IntKind.i64.wrap ((at_ : Int) + 1) = (at_ : Int) + 1 := by rw [IntKind.wrap_i64]; omega
  have hw0 : IntKind.i64.wrap (lv : Int) = (lv : Int) := by rw [IntKind.wrap_i64]; omega
  have hw2 : IntKind.i64.wrap ((u[at_] : Int) - (f : Int)) = (u[at_] : Int) - (f : Int) := by rw [IntKind.wrap_i64]; omega
  have hz : Fr w w.drew := Fr.drew (Fr.refl w)
  have hfl := hfz lv
  have HS := hideP (show _ ∧ _ from ⟨hcell, hfl⟩)
  have HC3 := hideP (fun (W W3 : World) (fW : Fr w W) (hG : W.grownBy W3 (some g2)) => (show W3.cell? ⟨g, lv, none⟩ = some (.slice (some ⟨g2, 0, none⟩) u.length k) ∧ W3.frozen? ⟨g, lv, none⟩ = false ∧ W3.cell? ⟨Bc, 1, none⟩ = some (.slice (some ⟨g, 0, none⟩) ys.length c) from by
    obtain ⟨cur, hcu⟩ := own_block h.u.own g rfl
    obtain ⟨cur2, hcu2⟩ := own_block hrow g2 rfl
    have hne : some g ≠ some g2 := by
      intro e
      cases e
      rw [hcu] at hcu2
      injection hcu2 with e
      injection e with _ e _
      exact absurd e (by decide)
    have hgl := (Array.getElem?_eq_some_iff.1 hcu).1
    obtain ⟨t1, t2⟩ := c1f_after fW ⟨hcell, hfz lv⟩
    have hb := hG.block g (Nat.lt_of_lt_of_le hgl fW.size) hne
    have hbx := (h.box.fr fW).grown hG (fun e => by
      cases e
      exact absurd (h.box.ty hcu2) (by decide))
    exact ⟨(World.cell?_of_block (a := ⟨g, lv, none⟩) hb).trans t1, (World.frozen?_of_block (a := ⟨g, lv, none⟩) hb).trans t2, hbx.cell 1 (u := .slice (some ⟨g, 0, none⟩) ys.length c) rfl⟩))
  have HS1 := hideP (show _ ∧ _ from ⟨x1, h.box.frozen 1⟩)
  clear h hrow hrow2 hvs hv hu hfz
  generalize u[at_] = x at *
  go_enter Try.func59, Try.ntmps59
  go_wp2_with fail
  have hzA : Fr w ((w.alloc (.cells #[.int .i64 (f : Int), .int .i64 ((x : Int) - (f : Int))] 3)).drew) := Fr.drew ((Fr.refl w).alloc _)
  obtain ⟨y1, y2⟩ := c1f_after hzA HS.out
  obtain ⟨v1, v2⟩ := c1f_after hzA HS1.out
  go_region_with (first
    | (go_at_call 73; refine (HRep.out _ hz).mono ?_; rintro _ w3 ⟨u3, rfl, hO3, hG3, hL3⟩; obtain ⟨a3, c3, rfl⟩ := own_slice hO3; have hE := HT.out.edit1 hB hl rfl HOb.out (hz.alloc _) hG3 ⟨a3, _, c3⟩ _ hO3 hL3; have HE := hideP hE; obtain ⟨y3, y4, y5⟩ := HC3.out _ _ (hz.alloc _) hG3))
  all_goals (
    refine bodyPost_end (v := .tuple #[]) (results_none rfl _ _ _) rfl ?_
    exact ⟨⟨a3, _, c3⟩, rfl, HE.out.1, HE.out.2⟩)
theorem join1_any (h : Tn B w Bc p q zs ys) (hB : B ≤ w.heap.size) (lv at_ : Nat) (hl : lv < ys.length) (hlv : lv ≤ 1000) (u : List Nat) (hu : ys[lv].2 = nI u) (ha : at_ + 1 < u.length) (hn : u.length ≤ 1000) (hub : u[at_] ≤ 1000) (hub2 : u[at_ + 1] ≤ 1000) (z : Int) (hz : z = (lv : Int) + 1) :
    Calls Try.prog 75 #[.pointer (some ⟨Bc, 0, none⟩), .int .i64 z, .int .i64 (at_ : Int)] w fun e w' => ∃ s', e = .returned (.tuple #[]) ∧ Tn B w' Bc p q zs (ys.set lv (s', nI (TR.join u at_))) ∧ Below B w w' := by
  subst hz
  obtain ⟨g, c, rfl, hc, hm, hcell, hfz, a, k, hv⟩ := h.u.cell hl
  obtain ⟨pa, pc, rfl⟩ := own_slice h.l.own
  have hrow := h.u.row _ (List.getElem_mem hl)
  rw [hu] at hrow
  have hrow2 := hrow
  rw [hv, hu] at hrow
  obtain ⟨g2, rfl, _, hcell2, _, _⟩ := own_int (B := B) (n := 0) hrow (i := at_) (by rw [nI_len]; omega)
  obtain ⟨_, hge, _, hcell3, _, _⟩ := own_int (B := B) (n := 0) hrow (i := at_ + 1) (by rw [nI_len]; exact ha)
  cases hge
  rw [nI_get] at hcell2 hcell3
  have hvs := hv
  rw [hu, nI_len] at hv
  rw [hv] at hcell
  have HRep := hideP (fun W (fw : Fr w W) => repI_any (s := ys[lv].1) (l := nI u) hrow2 fw hB at_ (at_ + 2) ((at_ : Int) + 2) (by simp) [(u[at_] : Int) + (u[at_ + 1] : Int)] 1 rfl (by rw [nI_len]; omega) (by rw [nI_len]; exact hn) (.inr ⟨rfl, rfl⟩) #[.int .i64 ((u[at_] : Int) + (u[at_ + 1] : Int))] rfl)
  rw [hv, nI_join ha] at HRep
  have HT := hideP h
  have HOb := hideP (congrArg Value.ownBlock hv)
  have x1 := h.box.cell 1 (u := .slice (some ⟨g, 0, none⟩) ys.length c) rfl
  have hlt : (lv : Int) < (ys.length : Int) := by omega
  have hlt2 : (at_ : Int) < (u.length : Int) := by omega
  have hne : ((lv : Int) + 1 == 0) = false := by simp; omega
  have hne2 : ¬ ((lv : Int) + 1 = 0) := by omega
  have hsb : (lv : Int) + 1 - 1 = (lv : Int) := by omega
  have hw1 : IntKind.i64.wrap ((at_ : Int) + 1) = (at_ : Int) + 1 := by rw [IntKind.wrap_i64]; omega
  have hw0 : IntKind.i64.wrap (lv : Int) = (lv : Int) := by rw [IntKind.wrap_i64]; omega
  have hw3 : IntKind.i64.wrap ((at_ : Int) + 2) = (at_ : Int) + 2 := by rw [IntKind.wrap_i64]; omega
  have hw2 : IntKind.i64.wrap ((u[at_] : Int) + (u[at_ + 1] : Int)) = (u[at_] : Int) + (u[at_ + 1] : Int) := by rw [IntKind.wrap_i64]; omega
  have hlt3 : (at_ : Int) + 1 < (u.length : Int) := by omega
  have hp1 : (0 : Int) ≤ (at_ : Int) + 1 := by omega
  have ht1 : ((at_ : Int) + 1).toNat = at_ + 1 := by omega
  have hz : Fr w w.drew := Fr.drew (Fr.refl w)
  have hfl := hfz lv
  have HS := hideP (show _ ∧ _ from ⟨hcell, hfl⟩)
  have HC3 := hideP (fun (W W3 : World) (fW : Fr w W) (hG : W.grownBy W3 (some g2)) => (show W3.cell? ⟨g, lv, none⟩ = some (.slice (some ⟨g2, 0, none⟩) u.length k) ∧ W3.frozen? ⟨g, lv, none⟩ = false ∧ W3.cell? ⟨Bc, 1, none⟩ = some (.slice (some ⟨g, 0, none⟩) ys.length c) from by
    obtain ⟨cur, hcu⟩ := own_block h.u.own g rfl
    obtain ⟨cur2, hcu2⟩ := own_block hrow g2 rfl
    have hne : some g ≠ some g2 := by
      intro e
      cases e
      rw [hcu] at hcu2
      injection hcu2 with e
      injection e with _ e _
      exact absurd e (by decide)
    have hgl := (Array.getElem?_eq_some_iff.1 hcu).1
    obtain ⟨t1, t2⟩ := c1f_after fW ⟨hcell, hfz lv⟩
    have hb := hG.block g (Nat.lt_of_lt_of_le hgl fW.size) hne
    have hbx := (h.box.fr fW).grown hG (fun e => by
      cases e
      exact absurd (h.box.ty hcu2) (by decide))
    exact ⟨(World.cell?_of_block (a := ⟨g, lv, none⟩) hb).trans t1, (World.frozen?_of_block (a := ⟨g, lv, none⟩) hb).trans t2, hbx.cell 1 (u := .slice (some ⟨g, 0, none⟩) ys.length c) rfl⟩))
  have HS1 := hideP (show _ ∧ _ from ⟨x1, h.box.frozen 1⟩)
  clear h hrow hrow2 hvs hv hu hfz
  generalize u[at_] = x at *
  generalize u[at_ + 1] = x' at *
  go_enter Try.func75, Try.ntmps75
  go_wp2_with fail
  have hzA : Fr w ((w.alloc (.cells #[.int .i64 ((x : Int) + (x' : Int))] 3)).drew) := Fr.drew ((Fr.refl w).alloc _)
  obtain ⟨y1, y2⟩ := c1f_after hzA HS.out
  obtain ⟨v1, v2⟩ := c1f_after hzA HS1.out
  go_region_with (first
    | (go_at_call 73; refine (HRep.out _ hz).mono ?_; rintro _ w3 ⟨u3, rfl, hO3, hG3, hL3⟩; obtain ⟨a3, c3, rfl⟩ := own_slice hO3; have hE := HT.out.edit1 hB hl rfl HOb.out (hz.alloc _) hG3 ⟨a3, _, c3⟩ _ hO3 hL3; have HE := hideP hE; obtain ⟨y3, y4, y5⟩ := HC3.out _ _ (hz.alloc _) hG3))
  all_goals (
    refine bodyPost_end (v := .tuple #[]) (results_none rfl _ _ _) rfl ?_
    exact ⟨⟨a3, _, c3⟩, rfl, HE.out.1, HE.out.2⟩)
end
end Go.Proofs.Ytmemapfboefngaa
