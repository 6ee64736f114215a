/-
  What cut of package tree does to the leaves.
-/
import Derived.Test.YtmemapfboefngaaGtG
namespace Go.Proofs.Ytmemapfboefngaa
open Go.ChangeShapes Go.WideShapes Go.ChangeAt Go.RowKit
set_option linter.unusedVariables false
set_option linter.unusedSimpArgs false
set_option maxRecDepth 100000
set_option maxHeartbeats 2000000
theorem lit_blk {α : Type} (E : Cd α) {W : World} {g : Nat} {l : List α} {T : TypeId} {arr : Array Value} (h : Blk W g arr T) (e : arr.toList = flat E l) : IsL E W (.slice (some ⟨g, 0, none⟩) l.length l.length) l := by
  refine ⟨_, l.length, rfl, Nat.le_refl _, .inr ⟨g, 0, rfl, h.lt, ?_⟩⟩
  intro j u hu
  rw [Nat.zero_add]
  refine h.cell j ?_
  rw [← hu, ← e, Array.getElem?_toList]
theorem Blk.ty {w : World} {g : Nat} {a b : Array Value} {T T' : TypeId} (h : Blk w g a T) (h' : w.heap[g]? = some (.cells b T' (0, 0))) : T = T' := by
  unfold Blk at h
  rw [h] at h'
  injection h' with h'
  injection h'
theorem Blk.apart {w : World} {b : Nat} {arr : Array Value} {T T' : TypeId} (h : Blk w b arr T) (hT : T ≠ T') {B sz n : Nat} {v : Value} {xs : List Value} (ho : w.ownsRow B T' sz v n xs) : v.ownBlock ≠ some b := by
  intro e
  obtain ⟨cur, hc⟩ := own_block ho b e
  exact hT (h.ty hc)
/-- a part of a row of one's own, as a list -/
theorem isL_take {α : Type} {E : Cd α} {B n g c : Nat} {T : TypeId} {w : World} {l : List α} (h : w.ownsRow B T E.k (.slice (some ⟨g, 0, none⟩) n c) n (flat E l)) (hl : l.length = n) (i : Nat) (hi : i ≤ n) : IsL E w (.slice (some ⟨g, 0, none⟩) i c) (l.take i) := by
  have h1 := own_cut h i hi
  rw [flat_take] at h1
  have e : (l.take i).length = i := by rw [List.length_take]; omega
  have h2 : w.ownsRow B T E.k (.slice (some ⟨g, 0, none⟩) i c) (l.take i).length (flat E (l.take i)) := by rw [e]; exact h1
  exact isL_own h2
theorem isL_drop {α : Type} {E : Cd α} {B n g c : Nat} {T : TypeId} {w : World} {l : List α} (h : w.ownsRow B T E.k (.slice (some ⟨g, 0, none⟩) n c) n (flat E l)) (hl : l.length = n) (i : Nat) (hi : i ≤ n) (hc : n ≤ c) (hg : g < w.heap.size) : IsL E w (.slice (some ⟨g, i * E.k, none⟩) (n - i) (c - i)) (l.drop i) := by
  have e : (l.drop i).length = n - i := by rw [List.length_drop, hl]
  refine ⟨_, c - i, by rw [e], by omega, .inr ⟨g, i * E.k, rfl, hg, ?_⟩⟩
  intro j u hu
  have e2 : (flat E l)[i * E.k + j]? = some u := by rw [← flat_drop, List.getElem?_drop] at hu; exact hu
  have := h.cells (g := g) rfl _ u e2
  rwa [Addr.add_lit, Nat.zero_add] at this
/-- two leaves instead of one in the row of leaves -/
theorem rep2_any {B : Nat} {W0 W : World} {p : Value} {zs : List (Sq × List TK.Pr)} (hp : OP cdPr 38 28 B W0 p zs) (f : Fr W0 W) (hB : B ≤ W0.heap.size) (at_ : Nat) (ha : at_ < zs.length) (hn : zs.length ≤ 100) (a1 a2 : Option Addr) (n1 n2 c1 c2 : Nat) :
    Calls Try.prog 72 #[p, .int .i64 (at_ : Int), .int .i64 ((at_ : Int) + 1), .slice (some ⟨W.heap.size, 0, none⟩) 2 2] (W.alloc (.cells #[.slice a1 n1 c1, .slice a2 n2 c2] 28)) fun e w' => ∃ v', e = .returned v' ∧ w'.ownsRow B 28 1 v' (zs.length + 1) (flat cdS ((zs.map Prod.fst).take at_ ++ [⟨a1, n1, c1⟩, ⟨a2, n2, c2⟩] ++ (zs.map Prod.fst).drop (at_ + 1))) ∧ (W.alloc (.cells #[.slice a1 n1 c1, .slice a2 n2 c2] 28)).grownBy w' p.ownBlock ∧ Lies (W.alloc (.cells #[.slice a1 n1 c1, .slice a2 n2 c2] 28)) p.ownBlock v' := by
  have hl : (zs.map Prod.fst).length = zs.length := by simp
  have hb := Blk.new W #[.slice a1 n1 c1, .slice a2 n2 c2] 28
  have hsz := f.size
  have f2 : Fr W0 (W.alloc (.cells #[.slice a1 n1 c1, .slice a2 n2 c2] 28)) := f.alloc _
  have hown : W0.ownsRow B 28 1 p (zs.map Prod.fst).length (flat cdS (zs.map Prod.fst)) := by rw [hl]; exact hp.own
  have hne : p.ownBlock ≠ some W.heap.size := fun e => by
    have := (hp.own.lt _ e).2
    omega
  refine (replaceL_any p (zs.map Prod.fst) [⟨a1, n1, c1⟩, ⟨a2, n2, c2⟩] at_ (at_ + 1) ((at_ : Int) + 1) (by simp) B W.heap.size 2 _ (own_fr hown f2) (by have := f2.size; omega) (by omega) (by omega) (lit_blk cdS hb rfl) _ hb (by simp) p.ownBlock rfl hne (.inl ⟨rfl, rfl⟩)).mono ?_
  rintro e w' ⟨v', h1, h2, h3, h4⟩
  refine ⟨v', h1, ?_, h3, h4⟩
  have e1 : at_ + ([⟨a1, n1, c1⟩, ⟨a2, n2, c2⟩] : List Sq).length + ((zs.map Prod.fst).length - (at_ + 1)) = zs.length + 1 := by rw [hl]; simp; omega
  rw [e1] at h2
  exact h2
theorem c1f_after {w w' : World} {a : Addr} {u : Value} (f : Fr w w') (h : w.cell? a = some u ∧ w.frozen? a = false) : w'.cell? a = some u ∧ w'.frozen? a = false :=
  ⟨(Below.cell f (World.block_lt_of_cell? _ _ h.1)).trans h.1, (Below.frozen f (World.block_lt_of_cell? _ _ h.1)).trans h.2⟩
section
variable {B : Nat} {w : World} {Bc : Nat} {p q : Value} {zs : List (Sq × List TK.Pr)} {ys : List (Sq × List Int)}
/-- the leaves' row in the box written anew -/
theorem Tn.leaves {w1 : World} (h : Tn B w Bc p q zs ys) {p' : Value} {zs' : List (Sq × List TK.Pr)} (f : w.grownBy w1 p.ownBlock) (hl : OP cdPr 38 28 B w1 p' zs') : Tn B (w1.setCell ⟨Bc, 0, none⟩ p') Bc p' q zs' ys := by
  have hap : p.ownBlock ≠ some Bc := h.box.apart (by decide) h.l.own
  have hb1 : Blk w1 Bc #[p, q] 69 := h.box.grown f hap
  have hu1 : OP cdZ 3 53 B w1 q ys := h.u.grownT (T' := 28) (by decide) (by decide) (fun g hg => own_block h.l.own g hg) f
  have hs : w1.grownBy (w1.setCell ⟨Bc, 0, none⟩ p') (some Bc) := ⟨rfl, rfl, rfl, by simp [World.setCell], fun k _ hk => Below.heap_setCell _ _ _ _ (fun e => hk (by rw [e]))⟩
  have hty : ∀ g, some Bc = some g → ∃ cur, w1.heap[g]? = some (.cells cur 69 (0, 0)) := fun g e => by cases e; exact ⟨_, hb1⟩
  refine ⟨?_, h.base, hl.grownT (T' := 69) (by decide) (by decide) hty hs, hu1.grownT (T' := 69) (by decide) (by decide) hty hs⟩
  have := hb1.set 0 p'
  simpa using this
/-- leaves instead of others: the row of leaves was written anew, the new leaves lie in blocks that were not there before -/
theorem Tn.edit0 (h : Tn B w Bc p q zs ys) (hB : B ≤ w.heap.size) {A M C : List (Sq × List TK.Pr)} (hz : zs = A ++ M ++ C) (M' : List (Sq × List TK.Pr)) {wA w3 : World} {p' : Value} (fA : Fr w wA) (hG : wA.grownBy w3 p.ownBlock)
    (own3 : w3.ownsRow B 28 1 p' (A ++ M' ++ C).length (flat cdS ((A ++ M' ++ C).map Prod.fst)))
    (rows : ∀ z ∈ M', wA.ownsRow w.heap.size 38 2 z.1.v z.2.length (flat cdPr z.2)) (ap : M'.Pairwise fun a b => Apart a.1.v.ownBlock b.1.v.ownBlock) :
    Tn B (w3.setCell ⟨Bc, 0, none⟩ p') Bc p' q (A ++ M' ++ C) ys ∧ Below B w (w3.setCell ⟨Bc, 0, none⟩ p') := by
  subst hz
  have hA := h.fr fA
  have key : ∀ {B' : Nat} {v : Value} {n : Nat} {xs : List Value}, wA.ownsRow B' 38 2 v n xs → w3.ownsRow B' 38 2 v n xs := fun h' => own_grownT h' (T' := 28) (by decide) (own_block hA.l.own) hG
  have hl : OP cdPr 38 28 B w3 p' (A ++ M' ++ C) := by
    refine h.l.edit own3 (fun z hz => key (hA.l.row z (by rcases hz with hz | hz <;> simp [hz]))) (fun z hz => key (own_low (rows z hz) hB)) ap fun z hz g hg => .inl ?_
    exact own_base (rows z hz) g hg
  refine ⟨hA.leaves hG hl, ?_⟩
  have hb : ∀ g, p.ownBlock = some g → B ≤ g := fun g hg => (h.l.own.lt g hg).1
  refine Below.trans (Below.mono fA hB) (Below.trans (b := w3) ⟨hG.os, hG.tape, hG.output, hG.size, fun k hk => hG.block k (by have := fA.size; omega) (fun e => by have := hb k e.symm; omega)⟩ (Below.setCell (Below.refl B w3) h.base p'))
theorem cut0_any (h : Tn B w Bc p q zs ys) (hB : B ≤ w.heap.size) (at_ f : Nat) (ha : at_ < zs.length) (hn : zs.length ≤ 100) (hf : f < zs[at_].2.length) (hr : zs[at_].2.length ≤ 100) :
    Calls Try.prog 59 #[.pointer (some ⟨Bc, 0, none⟩), .int .i64 0, .int .i64 (at_ : Int), .int .i64 (f : Int)] w fun e w' => ∃ p' zs', e = .returned (.tuple #[]) ∧ Tn B w' Bc p' q zs' ys ∧ zs'.map Prod.snd = TR.cutL (zs.map Prod.snd) at_ f ∧ Below B w w' := by
  obtain ⟨g, c, rfl, hc, hm, hcell, _, a, k, hv⟩ := h.l.cell ha
  obtain ⟨qa, qc, rfl⟩ := own_slice h.u.own
  have hrow := h.l.row _ (List.getElem_mem ha)
  rw [hv] at hcell hrow
  obtain ⟨g2, rfl, _, hnk, hkm, _, hg2, _, _⟩ := own_parts hrow (by omega)
  obtain ⟨n, hln⟩ : ∃ n, zs[at_].2.length = n := ⟨_, rfl⟩
  rw [hln] at hcell hrow hnk hf hr
  have HL1 := hideP (isL_take hrow hln f (by omega))
  have HL2 := hideP (isL_drop hrow hln f (by omega) hnk hg2)
  have HRep := hideP (fun W (fw : Fr w W) a1 a2 n1 n2 c1 c2 => rep2_any h.l fw hB at_ ha hn a1 a2 n1 n2 c1 c2)
  have HCl := hideP (fun (v : Value) (l : List TK.Pr) (W : World) (hi : IsL cdPr W v l) (hl : l.length ≤ 100) => cloneP_any v l W hi hl)
  have HT := hideP h
  have HSp := hideP (show zs = zs.take at_ ++ [zs[at_]] ++ zs.drop (at_ + 1) by rw [List.append_assoc, List.singleton_append, ← List.drop_eq_getElem_cons ha, List.take_append_drop])
  have hlt : (at_ : Int) < (zs.length : Int) := by omega
  have hkf : ¬ (k = f) := by omega
  have hfn : (f : Int) ≤ (n : Int) := by omega
  have hfk : f ≤ k := by omega
  have x0 := h.box.cell 0 (u := .slice (some ⟨g, 0, none⟩) zs.length c) rfl
  have HS := hideP (show _ ∧ _ from ⟨x0, h.box.frozen 0⟩)
  have hw1 : IntKind.i64.wrap ((at_ : Int) + 1) = (at_ : Int) + 1 := by rw [IntKind.wrap_i64]; omega
  have hz : Fr w w.drew := Fr.drew (Fr.refl w)
  have HLa := hideP (show (zs[at_].2.take f).length ≤ 100 by rw [List.length_take]; omega)
  have HLb := hideP (show (zs[at_].2.drop f).length ≤ 100 by rw [List.length_drop]; omega)
  have HCu := hideP (show ∀ s1 s2 : Sq, (zs.take at_ ++ [(s1, zs[at_].2.take f), (s2, zs[at_].2.drop f)] ++ zs.drop (at_ + 1)).map Prod.snd = TR.cutL (zs.map Prod.snd) at_ f from fun s1 s2 => by
    have e : (zs.map Prod.snd).getD at_ [] = zs[at_].2 := by simp [List.getD_eq_getElem?_getD, ha]
    unfold TR.cutL
    rw [e]
    simp)
  generalize zs[at_].2.take f = l1 at HL1 HLa HCu
  generalize zs[at_].2.drop f = l2 at HL2 HLb HCu
  clear h hrow hln hv
  go_enter Try.func59, Try.ntmps59
  go_wp2_with fail
  go_region_with (first
    | (go_at_call 69; first
        | (refine (HCl.out _ _ _ (HL2.out.fr hf1) HLb.out).mono ?_; rintro _ w2 ⟨u2, rfl, hO2, f2⟩; obtain ⟨a2, c2, rfl⟩ := own_slice hO2; have hf2 := hf1.trans f2; obtain ⟨y0, y1⟩ := c1f_after hf2 HS.out; obtain ⟨z0, z1⟩ := c1f_after (hf2.alloc (.cells #[.slice a1 l1.length c1, .slice a2 l2.length c2] 28)) HS.out)
        | (refine (HCl.out _ _ _ (HL1.out.fr hz) HLa.out).mono ?_; rintro _ w1 ⟨u1, rfl, hO1, f1⟩; obtain ⟨a1, c1, rfl⟩ := own_slice hO1; have hf1 := hz.trans f1; obtain ⟨x0', x1'⟩ := c1f_after hf1 HS.out))
    | (go_at_call 72; refine (HRep.out _ hf2 _ _ _ _ _ _).mono ?_; rintro _ w3 ⟨u3, rfl, hO3, hG3, hL3⟩; obtain ⟨a3, c3, rfl⟩ := own_slice hO3; have HB3 := hideP (((HT.out.fr hf2).box.old (.cells #[.slice a1 l1.length c1, .slice a2 l2.length c2] 28)).grown hG3 (HT.out.box.apart (by decide) HT.out.l.own)); have e0 := HB3.out.cell 0 (u := .slice (some ⟨g, 0, none⟩) zs.length c) rfl; have e1 := HB3.out.frozen 0))
  all_goals (
    have hE := HT.out.edit0 hB HSp.out [(⟨a1, l1.length, c1⟩, l1), (⟨a2, l2.length, c2⟩, l2)] (hf2.alloc (.cells #[.slice a1 l1.length c1, .slice a2 l2.length c2] 28)) hG3 (by
      have e1 : (zs.take at_ ++ [((⟨a1, l1.length, c1⟩ : Sq), l1), (⟨a2, l2.length, c2⟩, l2)] ++ zs.drop (at_ + 1)).length = zs.length + 1 := by simp; omega
      have e2 : (zs.take at_ ++ [((⟨a1, l1.length, c1⟩ : Sq), l1), (⟨a2, l2.length, c2⟩, l2)] ++ zs.drop (at_ + 1)).map Prod.fst = (zs.map Prod.fst).take at_ ++ [⟨a1, l1.length, c1⟩, ⟨a2, l2.length, c2⟩] ++ (zs.map Prod.fst).drop (at_ + 1) := by simp
      rw [e1, e2]
      exact hO3) (by
      intro z hz2
      simp only [List.mem_cons, List.mem_nil_iff, or_false] at hz2
      rcases hz2 with rfl | rfl
      · exact own_fr (own_fr hO1 f2) ((Fr.refl w2).alloc _)
      · exact own_low (own_fr hO2 ((Fr.refl w2).alloc _)) hf1.size) (by
      refine List.pairwise_cons.2 ⟨fun y hy => ?_, List.pairwise_singleton _ _⟩
      simp only [List.mem_singleton] at hy
      subst hy
      cases e2 : (Sq.v ⟨a2, l2.length, c2⟩).ownBlock with
      | none =>
        cases e1 : (Sq.v ⟨a1, l1.length, c1⟩).ownBlock with
        | none => exact .inl rfl
        | some g1 => exact .inr (by simp)
      | some g2 =>
        cases e1 : (Sq.v ⟨a1, l1.length, c1⟩).ownBlock with
        | none => exact .inl rfl
        | some g1 =>
          have b1 := (hO1.lt g1 e1).2
          have b2 := own_base hO2 g2 e2
          right
          intro e
          simp only [Option.some.injEq] at e
          omega)
    have HE := hideP hE
    clear hE hO1 hO2 hO3 hG3 hL3 f1 f2 hf1 hf2
    go_wp2_with fail
    refine bodyPost_ret (v := .tuple #[]) (results_none rfl _ _ _) rfl ?_
    refine ⟨_, _, rfl, HE.out.1, ?_, HE.out.2⟩
    exact HCu.out _ _)
end
end Go.Proofs.Ytmemapfboefngaa
