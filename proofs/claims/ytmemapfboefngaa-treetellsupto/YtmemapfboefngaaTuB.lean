/-
  What join of package tree does to the leaves.
-/
import Derived.Test.YtmemapfboefngaaTtI
import Derived.Test.YtmemapfboefngaaGtK
namespace Go.Proofs.Ytmemapfboefngaa
open Go.ChangeShapes Go.WideShapes Go.ChangeAt Go.RowKit
set_option linter.unusedVariables false
set_option linter.unusedSimpArgs false
set_option maxRecDepth 100000
set_option maxHeartbeats 8000000
/-- one leaf instead of two in the row of leaves -/
theorem rep1_any {B : Nat} {W0 W : World} {p : Value} {zs : List (Sq × List TK.Pr)} (hp : OP cdPr 38 28 B W0 p zs) (f : Fr W0 W) (hB : B ≤ W0.heap.size) (at_ : Nat) (ha : at_ + 1 < zs.length) (hn : zs.length ≤ 100) (a1 : Option Addr) (n1 c1 : Nat) :
    Calls Try.prog 72 #[p, .int .i64 (at_ : Int), .int .i64 ((at_ : Int) + 2), .slice (some ⟨W.heap.size, 0, none⟩) 1 1] (W.alloc (.cells #[.slice a1 n1 c1] 28)) fun e w' => ∃ v', e = .returned v' ∧ w'.ownsRow B 28 1 v' (zs.length - 1) (flat cdS ((zs.map Prod.fst).take at_ ++ [⟨a1, n1, c1⟩] ++ (zs.map Prod.fst).drop (at_ + 2))) ∧ (W.alloc (.cells #[.slice a1 n1 c1] 28)).grownBy w' p.ownBlock ∧ Lies (W.alloc (.cells #[.slice a1 n1 c1] 28)) p.ownBlock v' := by
  have hl : (zs.map Prod.fst).length = zs.length := by simp
  have hb := Blk.new W #[.slice a1 n1 c1] 28
  have hsz := f.size
  have f2 : Fr W0 (W.alloc (.cells #[.slice a1 n1 c1] 28)) := f.alloc _
  have hown : W0.ownsRow B 28 1 p (zs.map Prod.fst).length (flat cdS (zs.map Prod.fst)) := by rw [hl]; exact hp.own
  have hne : p.ownBlock ≠ some W.heap.size := fun e => by
    have := (hp.own.lt _ e).2
    omega
  refine (replaceL_any p (zs.map Prod.fst) [⟨a1, n1, c1⟩] at_ (at_ + 2) ((at_ : Int) + 2) (by simp) B W.heap.size 1 _ (own_fr hown f2) (by have := f2.size; omega) (by omega) (by omega) (lit_blk cdS hb rfl) _ hb (by simp) p.ownBlock rfl hne (.inr ⟨rfl, rfl⟩)).mono ?_
  rintro e w' ⟨v', h1, h2, h3, h4⟩
  refine ⟨v', h1, ?_, h3, h4⟩
  have e1 : at_ + ([⟨a1, n1, c1⟩] : List Sq).length + ((zs.map Prod.fst).length - (at_ + 2)) = zs.length - 1 := by rw [hl]; simp; omega
  rw [e1] at h2
  exact h2
/-- two leaves, one behind the other, as one -/
theorem cat2_any {B : Nat} {W0 W : World} {l1 l2 : List TK.Pr} {s1 s2 : Sq} (h1 : W0.ownsRow B 38 2 s1.v l1.length (flat cdPr l1)) (h2 : W0.ownsRow B 38 2 s2.v l2.length (flat cdPr l2)) (f : Fr W0 W) (hl1 : l1.length ≤ 100) (hl2 : l2.length ≤ 100) {v : Value} {g : Nat} (hb : Blk W g #[s1.v, s2.v] 28) (hv : v = .slice (some ⟨g, 0, none⟩) 2 2) :
    Calls Try.prog 86 #[v] W fun e w' => ∃ v', e = .returned v' ∧ w'.ownsRow W.heap.size 38 2 v' (l1 ++ l2).length (flat cdPr (l1 ++ l2)) ∧ Fr W w' := by
  subst hv
  have hfl : (#[s1.v, s2.v] : Array Value).toList = flat cdS [s1, s2] := rfl
  refine (concatP_any _ [l1, l2] W ⟨[s1, s2], lit_blk cdS hb hfl, rfl, fun i a b => ?_⟩ (by simp) (by simp [TK.tot, TK.sm]; omega)).mono ?_
  · have hi : i = 0 ∨ i = 1 := by simp at a; omega
    rcases hi with rfl | rfl
    · exact (isL_own (E := cdPr) h1).fr f
    · exact (isL_own (E := cdPr) h2).fr f
  · rintro e w' ⟨v', e1, e2, e3⟩
    refine ⟨v', e1, ?_, e3⟩
    simpa using e2
section
variable {B : Nat} {w : World} {Bc : Nat} {p q : Value} {zs : List (Sq × List TK.Pr)} {ys : List (Sq × List Int)}
theorem join0_any (h : Tn B w Bc p q zs ys) (hB : B ≤ w.heap.size) (at_ : Nat) (ha : at_ + 1 < zs.length) (hn : zs.length ≤ 100) (hr1 : zs[at_].2.length ≤ 100) (hr2 : zs[at_ + 1].2.length ≤ 100) :
    Calls Try.prog 75 #[.pointer (some ⟨Bc, 0, none⟩), .int .i64 0, .int .i64 (at_ : Int)] w fun e w' => ∃ p' zs', e = .returned (.tuple #[]) ∧ Tn B w' Bc p' q zs' ys ∧ zs'.map Prod.snd = TR.joinL (zs.map Prod.snd) at_ ∧ Below B w w' := by
  obtain ⟨g, c, rfl, hc, hm, hcell, _, a, k, hv⟩ := h.l.cell (show at_ < zs.length by omega)
  obtain ⟨g', c', e', _, _, hcell2, _, a', k', hv2⟩ := h.l.cell ha
  cases e'
  obtain ⟨qa, qc, rfl⟩ := own_slice h.u.own
  have hrow := h.l.row _ (List.getElem_mem (show at_ < zs.length by omega))
  have hrow2 := h.l.row _ (List.getElem_mem ha)
  have HRep := hideP (fun W (fw : Fr w W) a1 n1 c1 => rep1_any h.l fw hB at_ ha hn a1 n1 c1)
  have HCat := hideP (fun (W : World) (g : Nat) (v : Value) (f : Fr w W) (hb : Blk W g #[zs[at_].1.v, zs[at_ + 1].1.v] 28) (hv : v = .slice (some ⟨g, 0, none⟩) 2 2) => cat2_any hrow hrow2 f hr1 hr2 hb hv)
  rw [hv, hv2] at HCat
  rw [hv] at hcell
  rw [hv2] at hcell2
  have HT := hideP h
  have HSp := hideP (show zs = zs.take at_ ++ [zs[at_], zs[at_ + 1]] ++ zs.drop (at_ + 2) by
    have e1 := List.drop_eq_getElem_cons (show at_ < zs.length by omega)
    have e2 := List.drop_eq_getElem_cons ha
    rw [List.append_assoc]
    show zs = zs.take at_ ++ (zs[at_] :: zs[at_ + 1] :: zs.drop (at_ + 2))
    rw [← e2, ← e1, List.take_append_drop])
  have HCu := hideP (show ∀ s : Sq, (zs.take at_ ++ [(s, zs[at_].2 ++ zs[at_ + 1].2)] ++ zs.drop (at_ + 2)).map Prod.snd = TR.joinL (zs.map Prod.snd) at_ from fun s => by
    have e : (zs.map Prod.snd).getD at_ [] = zs[at_].2 := by simp [List.getD_eq_getElem?_getD, show at_ < zs.length by omega]
    have e2 : (zs.map Prod.snd).getD (at_ + 1) [] = zs[at_ + 1].2 := by simp [List.getD_eq_getElem?_getD, ha]
    unfold TR.joinL
    rw [e, e2]
    simp)
  have HEnd := hideP (fun (ll : List TK.Pr) (H : Nat) (hH : w.heap.size ≤ H) (w1 w3 : World) (a1 : Option Addr) (c1 : Nat) (p' : Value) (hf1 : Fr w w1) (hO1 : w1.ownsRow H 38 2 (.slice a1 ll.length c1) ll.length (flat cdPr ll))
      (hO3 : w3.ownsRow B 28 1 p' (zs.length - 1) (flat cdS ((zs.map Prod.fst).take at_ ++ [⟨a1, ll.length, c1⟩] ++ (zs.map Prod.fst).drop (at_ + 2))))
      (hG3 : (w1.alloc (.cells #[.slice a1 ll.length c1] 28)).grownBy w3 (Value.slice (some ⟨g, 0, none⟩) zs.length c).ownBlock) =>
    h.edit0 (p' := p') (w3 := w3) hB HSp.out [(⟨a1, ll.length, c1⟩, ll)] (hf1.alloc (.cells #[.slice a1 ll.length c1] 28)) hG3 (by
      have e1 : (zs.take at_ ++ [((⟨a1, ll.length, c1⟩ : Sq), ll)] ++ zs.drop (at_ + 2)).length = zs.length - 1 := by
        simp only [List.length_append, List.length_take, List.length_drop, List.length_cons, List.length_nil]; omega
      have e2 : (zs.take at_ ++ [((⟨a1, ll.length, c1⟩ : Sq), ll)] ++ zs.drop (at_ + 2)).map Prod.fst = (zs.map Prod.fst).take at_ ++ [⟨a1, ll.length, c1⟩] ++ (zs.map Prod.fst).drop (at_ + 2) := by simp
      rw [e1, e2]
      exact hO3) (by
      intro z hz2
      simp only [List.mem_singleton] at hz2
      subst hz2
      exact own_low (own_fr hO1 ((Fr.refl w1).alloc _)) hH) (List.pairwise_singleton _ _))
  have hlt : (at_ : Int) < (zs.length : Int) := by omega
  have hlt2 : (at_ : Int) + 1 < (zs.length : Int) := by omega
  have hp1 : (0 : Int) ≤ (at_ : Int) + 1 := by omega
  have ht1 : ((at_ : Int) + 1).toNat = at_ + 1 := by omega
  have hw1 : IntKind.i64.wrap ((at_ : Int) + 1) = (at_ : Int) + 1 := by rw [IntKind.wrap_i64]; omega
  have hw3 : IntKind.i64.wrap ((at_ : Int) + 2) = (at_ : Int) + 2 := by rw [IntKind.wrap_i64]; omega
  have x0 := h.box.cell 0 (u := .slice (some ⟨g, 0, none⟩) zs.length c) rfl
  have HS := hideP (show _ ∧ _ from ⟨x0, h.box.frozen 0⟩)
  have hz : Fr w w.drew := Fr.drew (Fr.refl w)
  have HLm := hideP (show (zs[at_].2 ++ zs[at_ + 1].2).length = zs[at_].2.length + zs[at_ + 1].2.length from List.length_append)
  clear h hrow hrow2 hv hv2
  generalize zs[at_].2 ++ zs[at_ + 1].2 = ll at HCat HCu HLm
  generalize zs[at_].2.length = n1 at *
  generalize zs[at_ + 1].2.length = n2 at *
  have HC2 := hideP (show w.cell? ⟨g, at_, none⟩ = some (.slice a n1 k) ∧ w.cell? ⟨g, at_ + 1, none⟩ = some (.slice a' n2 k') from ⟨hcell, hcell2⟩)
  have ht0 : ((at_ : Int)).toNat = at_ := by omega
  have hlt0 := hlt
  clear x0
  go_enter Try.func75, Try.ntmps75
  go_wp2_with fail
  refine region_inv2 rfl (fun listed v w9 => TJ w (fun i => ([.pointer (some ⟨Bc, 0, none⟩), .pointer (some ⟨Bc, 0, none⟩), .pointer (some ⟨Bc, 0, none⟩), .pointer (some ⟨Bc, 0, none⟩), .pointer (some ⟨Bc, 0, none⟩), .slice (some ⟨g, 0, none⟩) zs.length c, .int .i64 (at_ : Int), .int .i64 (at_ : Int), .int .i64 ((at_ : Int) + 2), .pointer (some ⟨Bc, 0, none⟩), .pointer (some ⟨Bc, 0, none⟩), .pointer (some ⟨Bc, 0, none⟩), .pointer (some ⟨Bc, 0, none⟩), .slice (some ⟨g, 0, none⟩) zs.length c, .int .i64 (at_ : Int), .pointer (some ⟨g, at_, none⟩), .slice a n1 k, .pointer (some ⟨Bc, 0, none⟩), .pointer (some ⟨Bc, 0, none⟩), .pointer (some ⟨Bc, 0, none⟩), .pointer (some ⟨Bc, 0, none⟩), .slice (some ⟨g, 0, none⟩) zs.length c, .int .i64 (at_ : Int), .int .i64 ((at_ : Int) + 1), .pointer (some ⟨g, at_ + 1, none⟩), .slice a' n2 k', undef, undef, undef, undef, .pointer (some ⟨Bc, 0, none⟩), .pointer (some ⟨Bc, 0, none⟩), .pointer (some ⟨Bc, 0, none⟩)] : List Value).getD i undef) (fun w' x => ∃ g1, x = .slice (some ⟨g1, 0, none⟩) 2 2 ∧ Blk w' g1 #[.slice a n1 k, .slice a' n2 k'] 28) (fun w' x => ∃ a1 c1, x = .slice a1 ll.length c1 ∧ w'.ownsRow w.heap.size 38 2 (.slice a1 ll.length c1) ll.length (flat cdPr ll)) (fun w' x => ∃ w1 a1 c1, w' = w1.alloc (.cells #[.slice a1 ll.length c1] 28) ∧ x = .slice (some ⟨w1.heap.size, 0, none⟩) 1 1 ∧ Fr w w1 ∧ w1.ownsRow w.heap.size 38 2 (.slice a1 ll.length c1) ll.length (flat cdPr ll)) (fun w3 x => ∃ w1 a1 c1, Fr w w1 ∧ w1.ownsRow w.heap.size 38 2 (.slice a1 ll.length c1) ll.length (flat cdPr ll) ∧ w3.ownsRow B 28 1 x (zs.length - 1) (flat cdS ((zs.map Prod.fst).take at_ ++ [⟨a1, ll.length, c1⟩] ++ (zs.map Prod.fst).drop (at_ + 2))) ∧ (w1.alloc (.cells #[.slice a1 ll.length c1] 28)).grownBy w3 (Value.slice (some ⟨g, 0, none⟩) zs.length c).ownBlock) (fun w' => ∃ w3 x, (∃ w1 a1 c1, Fr w w1 ∧ w1.ownsRow w.heap.size 38 2 (.slice a1 ll.length c1) ll.length (flat cdPr ll) ∧ w3.ownsRow B 28 1 x (zs.length - 1) (flat cdS ((zs.map Prod.fst).take at_ ++ [⟨a1, ll.length, c1⟩] ++ (zs.map Prod.fst).drop (at_ + 2))) ∧ (w1.alloc (.cells #[.slice a1 ll.length c1] 28)).grownBy w3 (Value.slice (some ⟨g, 0, none⟩) zs.length c).ownBlock) ∧ w' = w3.setCell ⟨Bc, 0, none⟩ x) (fun i => listed.getD i false) v w9) ?rh0 (by decide) ?rstep ?rdone
  case rh0 =>
    constructor
    · exact fun _ => Fr.drew (Fr.refl w)
    · intro i hi h
      exfalso
      revert h
      simp [Array.getD]
    all_goals first
      | (intro h; exact absurd h (by decide))
      | (intro k l _ h; exfalso; revert h; simp [Array.getD])
  case rstep =>
    intro listed v w9 A hs J HA HO i hi
    have hi1 := (ready_spec hi).1
    have hlt : i < listed.size := by rw [hs]; exact hi1
    have hno := not_yet hs hi
    have hiN : i < 34 := hi1
    rcases (show i = 0 ∨ i = 1 ∨ i = 2 ∨ i = 3 ∨ i = 4 ∨ i = 5 ∨ i = 6 ∨ i = 7 ∨ i = 8 ∨ i = 9 ∨ i = 10 ∨ i = 11 ∨ i = 12 ∨ i = 13 ∨ i = 14 ∨ i = 15 ∨ i = 16 ∨ i = 17 ∨ i = 18 ∨ i = 19 ∨ i = 20 ∨ i = 21 ∨ i = 22 ∨ i = 23 ∨ i = 24 ∨ i = 25 ∨ i = 26 ∨ i = 27 ∨ i = 28 ∨ i = 29 ∨ i = 30 ∨ i = 31 ∨ i = 32 ∨ i = 33 by omega) with rfl | rfl | rfl | rfl | rfl | rfl | rfl | rfl | rfl | rfl | rfl | rfl | rfl | rfl | rfl | rfl | rfl | rfl | rfl | rfl | rfl | rfl | rfl | rfl | rfl | rfl | rfl | rfl | rfl | rfl | rfl | rfl | rfl | rfl
    · exact wpOp_move rfl (y := .pointer (some ⟨Bc, 0, none⟩)) (HO 0 (by decide)) ⟨_, rfl, by rw [toL hlt]; exact J.stK 0 (by decide) rfl (by intro k l h e; subst e; first | (exfalso; revert h; simp; done) | (simp at h; subst h; assumption))⟩
    · exact wpOp_move rfl (y := .pointer (some ⟨Bc, 0, none⟩)) (HO 0 (by decide)) ⟨_, rfl, by rw [toL hlt]; exact J.stK 1 (by decide) rfl (by intro k l h e; subst e; first | (exfalso; revert h; simp; done) | (simp at h; subst h; assumption))⟩
    · have h1 := after_one hi rfl 1 (by decide)
      have e0 : A.eval (.tmp 10) = .pointer (some ⟨Bc, 0, none⟩) := (HA 1 10 rfl (by show 10 < 75; decide) h1).trans (J.m 1 (by decide) h1)
      refine wpOp_op rfl (y := .pointer (some ⟨Bc, 0, none⟩)) ?_ ⟨_, rfl, by rw [toL hlt]; exact J.stK 2 (by decide) rfl (by intro k l h e; subst e; first | (exfalso; revert h; simp; done) | (simp at h; subst h; assumption))⟩
      simp only [execOp, e0]
      simp [go_sem]
    · have h2 := after_one hi rfl 2 (by decide)
      have e0 : A.eval (.tmp 11) = .pointer (some ⟨Bc, 0, none⟩) := (HA 2 11 rfl (by show 11 < 75; decide) h2).trans (J.m 2 (by decide) h2)
      refine wpOp_op rfl (y := .pointer (some ⟨Bc, 0, none⟩)) ?_ ⟨_, rfl, by rw [toL hlt]; exact J.stK 3 (by decide) rfl (by intro k l h e; subst e; first | (exfalso; revert h; simp; done) | (simp at h; subst h; assumption))⟩
      simp only [execOp, e0]
      simp [go_sem]
    · have h3 := after_one hi rfl 3 (by decide)
      have e0 : A.eval (.tmp 12) = .pointer (some ⟨Bc, 0, none⟩) := (HA 3 12 rfl (by show 12 < 75; decide) h3).trans (J.m 3 (by decide) h3)
      refine wpOp_op rfl (y := .pointer (some ⟨Bc, 0, none⟩)) ?_ ⟨_, rfl, by rw [toL hlt]; exact J.stK 4 (by decide) rfl (by intro k l h e; subst e; first | (exfalso; revert h; simp; done) | (simp at h; subst h; assumption))⟩
      simp only [execOp, e0]
      simp [go_sem]
    · have h4 := after_one hi rfl 4 (by decide)
      have e0 : A.eval (.tmp 13) = .pointer (some ⟨Bc, 0, none⟩) := (HA 4 13 rfl (by show 13 < 75; decide) h4).trans (J.m 4 (by decide) h4)
      have f9 := J.fr (bne fun h => bf (J.p29 h) hno)
      obtain ⟨c0, c1⟩ := c1f_after f9 HS.out
      refine wpOp_load rfl (y := .slice (some ⟨g, 0, none⟩) zs.length c) (w' := w9) ?_ ⟨_, rfl, by rw [toL hlt]; exact J.stK 5 (by decide) rfl (by intro k l h e; subst e; first | (exfalso; revert h; simp; done) | (simp at h; subst h; assumption))⟩
      rw [e0]
      simp [go_sem, c0]
    · exact wpOp_move rfl (y := .int .i64 (at_ : Int)) (HO 2 (by decide)) ⟨_, rfl, by rw [toL hlt]; exact J.stK 6 (by decide) rfl (by intro k l h e; subst e; first | (exfalso; revert h; simp; done) | (simp at h; subst h; assumption))⟩
    · exact wpOp_move rfl (y := .int .i64 (at_ : Int)) (HO 2 (by decide)) ⟨_, rfl, by rw [toL hlt]; exact J.stK 7 (by decide) rfl (by intro k l h e; subst e; first | (exfalso; revert h; simp; done) | (simp at h; subst h; assumption))⟩
    · have h7 := after_one hi rfl 7 (by decide)
      have e0 : A.eval (.tmp 16) = .int .i64 (at_ : Int) := (HA 7 16 rfl (by show 16 < 75; decide) h7).trans (J.m 7 (by decide) h7)
      refine wpOp_op rfl (y := .int .i64 ((at_ : Int) + 2)) ?_ ⟨_, rfl, by rw [toL hlt]; exact J.stK 8 (by decide) rfl (by intro k l h e; subst e; first | (exfalso; revert h; simp; done) | (simp at h; subst h; assumption))⟩
      simp only [execOp, e0]
      simp [go_sem, hw3]
    · exact wpOp_move rfl (y := .pointer (some ⟨Bc, 0, none⟩)) (HO 0 (by decide)) ⟨_, rfl, by rw [toL hlt]; exact J.stK 9 (by decide) rfl (by intro k l h e; subst e; first | (exfalso; revert h; simp; done) | (simp at h; subst h; assumption))⟩
    · have h9 := after_one hi rfl 9 (by decide)
      have e0 : A.eval (.tmp 18) = .pointer (some ⟨Bc, 0, none⟩) := (HA 9 18 rfl (by show 18 < 75; decide) h9).trans (J.m 9 (by decide) h9)
      refine wpOp_op rfl (y := .pointer (some ⟨Bc, 0, none⟩)) ?_ ⟨_, rfl, by rw [toL hlt]; exact J.stK 10 (by decide) rfl (by intro k l h e; subst e; first | (exfalso; revert h; simp; done) | (simp at h; subst h; assumption))⟩
      simp only [execOp, e0]
      simp [go_sem]
    · have h10 := after_one hi rfl 10 (by decide)
      have e0 : A.eval (.tmp 19) = .pointer (some ⟨Bc, 0, none⟩) := (HA 10 19 rfl (by show 19 < 75; decide) h10).trans (J.m 10 (by decide) h10)
      refine wpOp_op rfl (y := .pointer (some ⟨Bc, 0, none⟩)) ?_ ⟨_, rfl, by rw [toL hlt]; exact J.stK 11 (by decide) rfl (by intro k l h e; subst e; first | (exfalso; revert h; simp; done) | (simp at h; subst h; assumption))⟩
      simp only [execOp, e0]
      simp [go_sem]
    · have h11 := after_one hi rfl 11 (by decide)
      have e0 : A.eval (.tmp 20) = .pointer (some ⟨Bc, 0, none⟩) := (HA 11 20 rfl (by show 20 < 75; decide) h11).trans (J.m 11 (by decide) h11)
      refine wpOp_op rfl (y := .pointer (some ⟨Bc, 0, none⟩)) ?_ ⟨_, rfl, by rw [toL hlt]; exact J.stK 12 (by decide) rfl (by intro k l h e; subst e; first | (exfalso; revert h; simp; done) | (simp at h; subst h; assumption))⟩
      simp only [execOp, e0]
      simp [go_sem]
    · have h12 := after_one hi rfl 12 (by decide)
      have e0 : A.eval (.tmp 21) = .pointer (some ⟨Bc, 0, none⟩) := (HA 12 21 rfl (by show 21 < 75; decide) h12).trans (J.m 12 (by decide) h12)
      have f9 := J.fr (J.h29 (J.h28 (J.h27 (J.n13 hno))))
      obtain ⟨c0, c1⟩ := c1f_after f9 HS.out
      refine wpOp_load rfl (y := .slice (some ⟨g, 0, none⟩) zs.length c) (w' := w9) ?_ ⟨_, rfl, by rw [toL hlt]; exact J.stK 13 (by decide) rfl (by intro k l h e; subst e; first | (exfalso; revert h; simp; done) | (simp at h; subst h; assumption))⟩
      rw [e0]
      simp [go_sem, c0]
    · exact wpOp_move rfl (y := .int .i64 (at_ : Int)) (HO 2 (by decide)) ⟨_, rfl, by rw [toL hlt]; exact J.stK 14 (by decide) rfl (by intro k l h e; subst e; first | (exfalso; revert h; simp; done) | (simp at h; subst h; assumption))⟩
    · have h13 := after_one hi rfl 13 (by decide)
      have h14 := after_one hi rfl 14 (by decide)
      have e0 : A.eval (.tmp 22) = .slice (some ⟨g, 0, none⟩) zs.length c := (HA 13 22 rfl (by show 22 < 75; decide) h13).trans (J.m 13 (by decide) h13)
      have e1 : A.eval (.tmp 23) = .int .i64 (at_ : Int) := (HA 14 23 rfl (by show 23 < 75; decide) h14).trans (J.m 14 (by decide) h14)
      refine wpOp_op rfl (y := .pointer (some ⟨g, at_, none⟩)) ?_ ⟨_, rfl, by rw [toL hlt]; exact J.stK 15 (by decide) rfl (by intro k l h e; subst e; first | (exfalso; revert h; simp; done) | (simp at h; subst h; assumption))⟩
      simp only [execOp, e0, e1]
      simp [go_sem, hlt0, ht0]
    · have h15 := after_one hi rfl 15 (by decide)
      have e0 : A.eval (.tmp 24) = .pointer (some ⟨g, at_, none⟩) := (HA 15 24 rfl (by show 24 < 75; decide) h15).trans (J.m 15 (by decide) h15)
      have f9 := J.fr (J.h29 (J.h28 (J.h27 (J.n16 hno))))
      obtain ⟨c0, c1⟩ := c2_after f9 HC2.out
      refine wpOp_load rfl (y := .slice a n1 k) (w' := w9) ?_ ⟨_, rfl, by rw [toL hlt]; exact J.stK 16 (by decide) rfl (by intro k l h e; subst e; first | (exfalso; revert h; simp; done) | (simp at h; subst h; assumption))⟩
      rw [e0]
      simp [go_sem, c0, c1]
    · exact wpOp_move rfl (y := .pointer (some ⟨Bc, 0, none⟩)) (HO 0 (by decide)) ⟨_, rfl, by rw [toL hlt]; exact J.stK 17 (by decide) rfl (by intro k l h e; subst e; first | (exfalso; revert h; simp; done) | (simp at h; subst h; assumption))⟩
    · have h17 := after_one hi rfl 17 (by decide)
      have e0 : A.eval (.tmp 26) = .pointer (some ⟨Bc, 0, none⟩) := (HA 17 26 rfl (by show 26 < 75; decide) h17).trans (J.m 17 (by decide) h17)
      refine wpOp_op rfl (y := .pointer (some ⟨Bc, 0, none⟩)) ?_ ⟨_, rfl, by rw [toL hlt]; exact J.stK 18 (by decide) rfl (by intro k l h e; subst e; first | (exfalso; revert h; simp; done) | (simp at h; subst h; assumption))⟩
      simp only [execOp, e0]
      simp [go_sem]
    · have h18 := after_one hi rfl 18 (by decide)
      have e0 : A.eval (.tmp 27) = .pointer (some ⟨Bc, 0, none⟩) := (HA 18 27 rfl (by show 27 < 75; decide) h18).trans (J.m 18 (by decide) h18)
      refine wpOp_op rfl (y := .pointer (some ⟨Bc, 0, none⟩)) ?_ ⟨_, rfl, by rw [toL hlt]; exact J.stK 19 (by decide) rfl (by intro k l h e; subst e; first | (exfalso; revert h; simp; done) | (simp at h; subst h; assumption))⟩
      simp only [execOp, e0]
      simp [go_sem]
    · have h19 := after_one hi rfl 19 (by decide)
      have e0 : A.eval (.tmp 28) = .pointer (some ⟨Bc, 0, none⟩) := (HA 19 28 rfl (by show 28 < 75; decide) h19).trans (J.m 19 (by decide) h19)
      refine wpOp_op rfl (y := .pointer (some ⟨Bc, 0, none⟩)) ?_ ⟨_, rfl, by rw [toL hlt]; exact J.stK 20 (by decide) rfl (by intro k l h e; subst e; first | (exfalso; revert h; simp; done) | (simp at h; subst h; assumption))⟩
      simp only [execOp, e0]
      simp [go_sem]
    · have h20 := after_one hi rfl 20 (by decide)
      have e0 : A.eval (.tmp 29) = .pointer (some ⟨Bc, 0, none⟩) := (HA 20 29 rfl (by show 29 < 75; decide) h20).trans (J.m 20 (by decide) h20)
      have f9 := J.fr (J.h29 (J.h28 (J.h27 (J.n21 hno))))
      obtain ⟨c0, c1⟩ := c1f_after f9 HS.out
      refine wpOp_load rfl (y := .slice (some ⟨g, 0, none⟩) zs.length c) (w' := w9) ?_ ⟨_, rfl, by rw [toL hlt]; exact J.stK 21 (by decide) rfl (by intro k l h e; subst e; first | (exfalso; revert h; simp; done) | (simp at h; subst h; assumption))⟩
      rw [e0]
      simp [go_sem, c0]
    · exact wpOp_move rfl (y := .int .i64 (at_ : Int)) (HO 2 (by decide)) ⟨_, rfl, by rw [toL hlt]; exact J.stK 22 (by decide) rfl (by intro k l h e; subst e; first | (exfalso; revert h; simp; done) | (simp at h; subst h; assumption))⟩
    · have h22 := after_one hi rfl 22 (by decide)
      have e0 : A.eval (.tmp 31) = .int .i64 (at_ : Int) := (HA 22 31 rfl (by show 31 < 75; decide) h22).trans (J.m 22 (by decide) h22)
      refine wpOp_op rfl (y := .int .i64 ((at_ : Int) + 1)) ?_ ⟨_, rfl, by rw [toL hlt]; exact J.stK 23 (by decide) rfl (by intro k l h e; subst e; first | (exfalso; revert h; simp; done) | (simp at h; subst h; assumption))⟩
      simp only [execOp, e0]
      simp [go_sem, hw1]
    · have h21 := after_one hi rfl 21 (by decide)
      have h23 := after_one hi rfl 23 (by decide)
      have e0 : A.eval (.tmp 30) = .slice (some ⟨g, 0, none⟩) zs.length c := (HA 21 30 rfl (by show 30 < 75; decide) h21).trans (J.m 21 (by decide) h21)
      have e1 : A.eval (.tmp 32) = .int .i64 ((at_ : Int) + 1) := (HA 23 32 rfl (by show 32 < 75; decide) h23).trans (J.m 23 (by decide) h23)
      refine wpOp_op rfl (y := .pointer (some ⟨g, at_ + 1, none⟩)) ?_ ⟨_, rfl, by rw [toL hlt]; exact J.stK 24 (by decide) rfl (by intro k l h e; subst e; first | (exfalso; revert h; simp; done) | (simp at h; subst h; assumption))⟩
      simp only [execOp, e0, e1]
      simp [go_sem, hlt2, hp1, ht1]
    · have h24 := after_one hi rfl 24 (by decide)
      have e0 : A.eval (.tmp 33) = .pointer (some ⟨g, at_ + 1, none⟩) := (HA 24 33 rfl (by show 33 < 75; decide) h24).trans (J.m 24 (by decide) h24)
      have f9 := J.fr (J.h29 (J.h28 (J.h27 (J.n25 hno))))
      obtain ⟨c0, c1⟩ := c2_after f9 HC2.out
      refine wpOp_load rfl (y := .slice a' n2 k') (w' := w9) ?_ ⟨_, rfl, by rw [toL hlt]; exact J.stK 25 (by decide) rfl (by intro k l h e; subst e; first | (exfalso; revert h; simp; done) | (simp at h; subst h; assumption))⟩
      rw [e0]
      simp [go_sem, c0, c1]
    · have h16 := after_one hi rfl 16 (by decide)
      have h25 := after_one hi rfl 25 (by decide)
      have e0 : A.eval (.tmp 25) = .slice a n1 k := (HA 16 25 rfl (by show 25 < 75; decide) h16).trans (J.m 16 (by decide) h16)
      have e1 : A.eval (.tmp 34) = .slice a' n2 k' := (HA 25 34 rfl (by show 34 < 75; decide) h25).trans (J.m 25 (by decide) h25)
      have f9 := J.fr (J.h29 (J.h28 (J.h27 hno)))
      refine wpOp_slice rfl (y := .slice (some ⟨w9.heap.size, 0, none⟩) 2 2) (w' := w9.alloc (.cells #[.slice a n1 k, .slice a' n2 k'] 28)) ?_ ⟨_, rfl, by rw [toL hlt]; exact J.st26 hno ⟨h16, h25⟩ (f9.alloc _) ⟨_, rfl, Blk.new w9 _ _⟩⟩
      simp only [List.map_toArray, List.map_cons, List.map_nil, e0, e1]
      kernel_rfl
    · have h26 := after_one hi rfl 26 (by decide)
      obtain ⟨g1, hv, hb⟩ := J.s1 h26 hno
      have e0 : A.eval (.tmp 35) = .slice (some ⟨g1, 0, none⟩) 2 2 := (HA 26 35 rfl (by show 35 < 75; decide) h26).trans hv
      have f9 := J.fr (J.h29 (J.h28 hno))
      refine wpOp_call rfl (args := #[.slice (some ⟨g1, 0, none⟩) 2 2]) ?_ (by kernel_rfl) (HCat.out w9 g1 _ f9 hb rfl) ?_
      · simp only [List.map_toArray, List.map_cons, List.map_nil, e0]
      · rintro e w9' ⟨x, rfl, hown, f2⟩
        have h9 := own_low hown f9.size
        obtain ⟨a1, c1, rfl⟩ := own_slice h9
        exact ⟨_, rfl, _, rfl, by rw [toL hlt]; exact J.st27 h26 hno (f9.trans f2) ⟨a1, c1, rfl, h9⟩⟩
    · have h27 := after_one hi rfl 27 (by decide)
      obtain ⟨a1, c1, hv, ho⟩ := J.s2 h27 hno
      have e0 : A.eval (.tmp 36) = .slice a1 ll.length c1 := (HA 27 36 rfl (by show 36 < 75; decide) h27).trans hv
      have f9 := J.fr (J.h29 hno)
      refine wpOp_slice rfl (y := .slice (some ⟨w9.heap.size, 0, none⟩) 1 1) (w' := w9.alloc (.cells #[.slice a1 ll.length c1] 28)) ?_ ⟨_, rfl, by rw [toL hlt]; exact J.st28 h27 hno (f9.alloc _) ⟨w9, a1, c1, rfl, rfl, f9, ho⟩⟩
      simp only [List.map_toArray, List.map_cons, List.map_nil, e0]
      kernel_rfl
    · have h5 := after_one hi rfl 5 (by decide)
      have h6 := after_one hi rfl 6 (by decide)
      have h8 := after_one hi rfl 8 (by decide)
      have h28 := after_one hi rfl 28 (by decide)
      have e0 : A.eval (.tmp 14) = .slice (some ⟨g, 0, none⟩) zs.length c := (HA 5 14 rfl (by show 14 < 75; decide) h5).trans (J.m 5 (by decide) h5)
      have e1 : A.eval (.tmp 15) = .int .i64 (at_ : Int) := (HA 6 15 rfl (by show 15 < 75; decide) h6).trans (J.m 6 (by decide) h6)
      have e2 : A.eval (.tmp 17) = .int .i64 ((at_ : Int) + 2) := (HA 8 17 rfl (by show 17 < 75; decide) h8).trans (J.m 8 (by decide) h8)
      obtain ⟨w1, a1, c1, rfl, hv, f1, ho⟩ := J.s3 h28 hno
      have e3 : A.eval (.tmp 37) = .slice (some ⟨w1.heap.size, 0, none⟩) 1 1 := (HA 28 37 rfl (by show 37 < 75; decide) h28).trans hv
      refine wpOp_call rfl (args := #[.slice (some ⟨g, 0, none⟩) zs.length c, .int .i64 (at_ : Int), .int .i64 ((at_ : Int) + 2), .slice (some ⟨w1.heap.size, 0, none⟩) 1 1]) ?_ (by kernel_rfl) (HRep.out w1 f1 a1 ll.length c1) ?_
      · simp only [List.map_toArray, List.map_cons, List.map_nil, e0, e1, e2, e3]
      · rintro e w9' ⟨x, rfl, hO3, hG3, _⟩
        exact ⟨_, rfl, _, rfl, by rw [toL hlt]; exact J.st29 h5 h28 hno ⟨w1, a1, c1, f1, ho, hO3, hG3⟩⟩
    · have h0 := after_one hi rfl 0 (by decide)
      have e0 : A.eval (.tmp 9) = .pointer (some ⟨Bc, 0, none⟩) := (HA 0 9 rfl (by show 9 < 75; decide) h0).trans (J.m 0 (by decide) h0)
      refine wpOp_op rfl (y := .pointer (some ⟨Bc, 0, none⟩)) ?_ ⟨_, rfl, by rw [toL hlt]; exact J.stK 30 (by decide) rfl (by intro k l h e; subst e; first | (exfalso; revert h; simp; done) | (simp at h; subst h; assumption))⟩
      simp only [execOp, e0]
      simp [go_sem]
    · have h30 := after_one hi rfl 30 (by decide)
      have e0 : A.eval (.tmp 39) = .pointer (some ⟨Bc, 0, none⟩) := (HA 30 39 rfl (by show 39 < 75; decide) h30).trans (J.m 30 (by decide) h30)
      refine wpOp_op rfl (y := .pointer (some ⟨Bc, 0, none⟩)) ?_ ⟨_, rfl, by rw [toL hlt]; exact J.stK 31 (by decide) rfl (by intro k l h e; subst e; first | (exfalso; revert h; simp; done) | (simp at h; subst h; assumption))⟩
      simp only [execOp, e0]
      simp [go_sem]
    · have h31 := after_one hi rfl 31 (by decide)
      have e0 : A.eval (.tmp 40) = .pointer (some ⟨Bc, 0, none⟩) := (HA 31 40 rfl (by show 40 < 75; decide) h31).trans (J.m 31 (by decide) h31)
      refine wpOp_op rfl (y := .pointer (some ⟨Bc, 0, none⟩)) ?_ ⟨_, rfl, by rw [toL hlt]; exact J.stK 32 (by decide) rfl (by intro k l h e; subst e; first | (exfalso; revert h; simp; done) | (simp at h; subst h; assumption))⟩
      simp only [execOp, e0]
      simp [go_sem]
    · have h29 := after_one hi rfl 29 (by decide)
      have h32 := after_one hi rfl 32 (by decide)
      have e0 : A.eval (.tmp 41) = .pointer (some ⟨Bc, 0, none⟩) := (HA 32 41 rfl (by show 41 < 75; decide) h32).trans (J.m 32 (by decide) h32)
      have e1 := HA 29 38 rfl (by show 38 < 75; decide) h29
      have hS := J.s4 h29 hno
      obtain ⟨w1, a1, c1, f1, ho, hO3, hG3⟩ := hS
      obtain ⟨va, vc, ev⟩ := own_slice hO3
      have HB3 := ((HT.out.fr f1).box.old (.cells #[.slice a1 ll.length c1] 28)).grown hG3 (HT.out.box.apart (by decide) HT.out.l.own)
      have m0 := HB3.cell 0 (u := .slice (some ⟨g, 0, none⟩) zs.length c) rfl
      have f0 := HB3.frozen 0
      refine wpOp_store rfl (w' := w9.setCell ⟨Bc, 0, none⟩ (v 29)) ?_ ⟨_, rfl, by rw [toL hlt]; exact J.st33 h29 hno ⟨w9, v 29, ⟨w1, a1, c1, f1, ho, hO3, hG3⟩, rfl⟩⟩
      rw [e0, e1, ev]
      simp [go_sem, m0, f0]
  case rdone =>
    intro listed v w9 hs J hr
    have al := all_done hs hr (by decide)
    obtain ⟨w3, x, ⟨w1, a1, c1, f1, ho, hO3, hG3⟩, rfl⟩ := J.s5 (al 33 (by decide))
    have HE := HEnd.out ll w.heap.size (Nat.le_refl _) w1 w3 _ _ _ f1 ho hO3 hG3
    obtain ⟨va, vc, rfl⟩ := own_slice hO3
    clear hO3 hG3 ho f1 J
    go_wp2_with fail
    refine bodyPost_ret (v := .tuple #[]) (results_none rfl _ _ _) (putL_defers _ _) ?_
    exact ⟨_, _, rfl, HE.1, HCu.out _, HE.2⟩
end
end Go.Proofs.Ytmemapfboefngaa
