/-
  What belongs together: TtM, TtN, TtO.
-/
import Derived.Test.YtmemapfboefngaaTtL
namespace Go.Proofs.Ytmemapfboefngaa
open Go.ChangeShapes Go.WideShapes Go.ChangeAt Go.RowKit
set_option linter.unusedVariables false
set_option linter.unusedSimpArgs false
set_option maxRecDepth 100000
set_option maxHeartbeats 2000000
namespace TR
section
variable {P : Type} {L : List (List P)} {U : List (List Nat)}
theorem lenS_join {k a : Nat} (hk : k ≤ U.length) (ha : a + 1 < lenS L U k) : lenS (joinS k a L U).1 (joinS k a L U).2 k + 1 = lenS L U k := by
  cases k with
  | zero => exact joinL_len ha
  | succ k =>
    have hkU : k < U.length := by omega
    simp only [lenS, joinS] at ha ⊢
    have e : (U.set k (join (U.getD k []) a)).getD k [] = join (U.getD k []) a := by simp [List.getD_eq_getElem?_getD, hkU]
    rw [e]
    exact join_length ha
theorem sizeS_join {k a : Nat} (hk : k ≤ U.length) (ha : a + 1 < lenS L U k) : sizeS (joinS k a L U).1 (joinS k a L U).2 k a = sizeS L U k a + sizeS L U k (a + 1) := by
  cases k with
  | zero =>
    simp only [sizeS, joinS]
    rw [joinL_get ha, List.length_append]
  | succ k =>
    have hkU : k < U.length := by omega
    simp only [lenS, sizeS, joinS] at ha ⊢
    have e : (U.set k (join (U.getD k []) a)).getD k [] = join (U.getD k []) a := by simp [List.getD_eq_getElem?_getD, hkU]
    rw [e]
    exact join_at ha
end
/-- which one is the left one, which one could spare, how many the left one gets -/
def hl (a : Nat) (last : Bool) : Nat := if last then a - 1 else a
def ho (a : Nat) (last : Bool) : Nat := if last then a - 1 else a + 1
def hf {P : Type} (L : List (List P)) (U : List (List Nat)) (k a : Nat) (last : Bool) : Nat := if last then sizeS L U k (a - 1) - 1 else sizeS L U k a + 1
def handS {P : Type} (k a : Nat) (last : Bool) (L : List (List P)) (U : List (List Nat)) : List (List P) × List (List Nat) :=
  if 2 < sizeS L U k (ho a last) then cutS k (hl a last) (hf L U k a last) (joinS k (hl a last) L U).1 (joinS k (hl a last) L U).2 else joinS k (hl a last) L U
end TR
section
variable {B : Nat} {w w' : World} {Bc : Nat} {L : List (List TK.Pr)} {U : List (List Nat)}
theorem handed_any (h : Tr B w Bc L U) (hb : Bd L U) (hB : B ≤ w.heap.size) (k a : Nat) (last : Bool) (hk : k ≤ U.length) (h1 : last = true → 1 ≤ a ∧ a < TR.lenS L U k ∧ 1 ≤ TR.sizeS L U k (a - 1)) (h2 : last = false → a + 1 < TR.lenS L U k)
    (hbJ : Bd (TR.joinS k (TR.hl a last) L U).1 (TR.joinS k (TR.hl a last) L U).2) (hs : TR.sizeS L U k a ≤ 100) (hs2 : TR.sizeS L U k (TR.ho a last) ≤ 100) (ha9 : a ≤ 100) :
    Calls Try.prog 63 #[.pointer (some ⟨Bc, 0, none⟩), .int .i64 (k : Int), .int .i64 (a : Int), .bool last] w fun e w' => e = .returned (.bool (decide (2 < TR.sizeS L U k (TR.ho a last)))) ∧ Tr B w' Bc (TR.handS k a last L U).1 (TR.handS k a last L U).2 ∧ Below B w w' := by
  have hlen : TR.hl a last + 1 < TR.lenS L U k := by
    cases last with
    | false => exact h2 rfl
    | true => have := h1 rfl; simp only [TR.hl, if_true]; omega
  have hlj := TR.lenS_join hk hlen
  have hsj := TR.sizeS_join hk hlen
  have hUj : (TR.joinS k (TR.hl a last) L U).2.length = U.length := by
    cases k <;> simp [TR.joinS]
  have hal : a < TR.lenS L U k := by
    cases last with
    | false => have := h2 rfl; omega
    | true => exact (h1 rfl).2.1
  have hol : TR.ho a last < TR.lenS L U k := by
    cases last with
    | false => have := h2 rfl; simp only [TR.ho]; exact this
    | true => have := h1 rfl; simp only [TR.ho, if_true]; omega
  have HSz := hideP (fun (W : World) (f : Fr w W) => sizeS_any (h.fr f) hb k a hk hal)
  have HSo := hideP (fun (W : World) (f : Fr w W) => sizeS_any (h.fr f) hb k (TR.ho a last) hk hol)
  have HJo := hideP (fun (W : World) (f : Fr w W) => joinS_any (h.fr f) hb (Nat.le_trans hB f.size) k (TR.hl a last) hk hlen)
  have HCu := hideP (fun (W : World) (t : Tr B W Bc (TR.joinS k (TR.hl a last) L U).1 (TR.joinS k (TR.hl a last) L U).2) (hW : B ≤ W.heap.size) (hsp : 2 < TR.sizeS L U k (TR.ho a last)) => cutS_any t hbJ hW k (TR.hl a last) (TR.hf L U k a last) (by omega) (by omega) (by
    rw [hsj]
    cases last with
    | false =>
      have hsp' : 2 < TR.sizeS L U k (a + 1) := hsp
      show TR.sizeS L U k a + 1 < TR.sizeS L U k a + TR.sizeS L U k (a + 1)
      omega
    | true =>
      have h3 := h1 rfl
      show TR.sizeS L U k (a - 1) - 1 < TR.sizeS L U k (a - 1) + TR.sizeS L U k (a - 1 + 1)
      omega))
  have HMs := hideP (show 2 < TR.sizeS L U k (TR.ho a last) → TR.handS k a last L U = TR.cutS k (TR.hl a last) (TR.hf L U k a last) (TR.joinS k (TR.hl a last) L U).1 (TR.joinS k (TR.hl a last) L U).2 from fun hh => by unfold TR.handS; rw [if_pos hh])
  have HMn := hideP (show ¬ 2 < TR.sizeS L U k (TR.ho a last) → TR.handS k a last L U = TR.joinS k (TR.hl a last) L U from fun hh => by unfold TR.handS; rw [if_neg hh])
  have HH1 := hideP h1
  generalize hR : TR.handS k a last L U = R at HMs HMn ⊢
  generalize TR.joinS k (TR.hl a last) L U = J at HJo HCu HMs HMn
  generalize hSo : TR.sizeS L U k (TR.ho a last) = so at HSo HCu HMs HMn hs2 ⊢
  have HR0 := hideP hR
  have HSo0 := hideP hSo
  clear hlen hlj hsj hUj hal hol h1 h2 hbJ hR hSo
  cases last with
  | false =>
    have e1 : TR.hl a false = a := rfl
    have e2 : TR.ho a false = a + 1 := rfl
    have e3 : TR.hf L U k a false = TR.sizeS L U k a + 1 := rfl
    rw [e1, e3] at HCu HMs
    rw [e1] at HJo
    rw [e2] at HSo
    clear e1 e2 e3 HR0 HSo0 HH1
    generalize hsa : TR.sizeS L U k a = sa at *
    have HSa := hideP hsa
    clear hsa
    have hsq : sa ≤ 100 := hs
    by_cases hsp : 2 < so
    · have hd : decide (2 < so) = true := decide_eq_true hsp
      have hgt : (2 : Int) < (so : Int) := by omega
      have HC := hideP (fun W t hW => HCu.out W t hW hsp)
      have HM := hideP (HMs.out hsp)
      rw [hd]
      clear HCu HMs hsp hd
      go_enter Try.func63, Try.ntmps63
      go_wp2_with fail
      refine (HSz.out _ (Fr.refl _)).mono ?_
      rintro _ w1 ⟨rfl, f1⟩
      have F1 := hideP f1
      clear f1
      go_wp2_with fail
      refine (HSo.out _ F1.out).mono ?_
      rintro _ w2 ⟨rfl, f2⟩
      have F2 := hideP (F1.out.trans f2)
      clear f2
      go_wp2_with fail
      refine (HJo.out _ F2.out).mono ?_
      rintro _ w4 ⟨rfl, t4, b4⟩
      have T4 := hideP t4
      have B4 := hideP (Below.trans (Below.mono F2.out hB) b4)
      have hB4 := hideP (Nat.le_trans hB B4.out.size)
      clear t4 b4
      go_wp2_with fail
      refine (HC.out _ T4.out hB4.out).mono ?_
      rintro _ w9 ⟨rfl, t5, b5⟩
      have T5 := hideP t5
      have B5 := hideP (Below.trans B4.out b5)
      clear t5 b5
      go_wp2_with fail
      go_ret
      exact ⟨rfl, by rw [HM.out]; exact T5.out, B5.out⟩
    · have hd : decide (2 < so) = false := decide_eq_false hsp
      have hgt : ((2 : Int) < (so : Int)) = False := by simp; omega
      have HM := hideP (HMn.out hsp)
      rw [hd]
      clear HCu HMs hsp hd
      go_enter Try.func63, Try.ntmps63
      go_wp2_with fail
      refine (HSz.out _ (Fr.refl _)).mono ?_
      rintro _ w1 ⟨rfl, f1⟩
      have F1 := hideP f1
      clear f1
      go_wp2_with fail
      refine (HSo.out _ F1.out).mono ?_
      rintro _ w2 ⟨rfl, f2⟩
      have F2 := hideP (F1.out.trans f2)
      clear f2
      go_wp2_with fail
      refine (HJo.out _ F2.out).mono ?_
      rintro _ w4 ⟨rfl, t4, b4⟩
      have T4 := hideP t4
      have B4 := hideP (Below.trans (Below.mono F2.out hB) b4)
      clear t4 b4
      go_wp2_with fail
      go_ret
      exact ⟨rfl, by rw [HM.out]; exact T4.out, B4.out⟩
  | true =>
    have h3 := HH1.out rfl
    obtain ⟨b, hb1⟩ : ∃ b, a = b + 1 := ⟨a - 1, by omega⟩
    subst hb1
    have e1 : TR.hl (b + 1) true = b := rfl
    have e2 : TR.ho (b + 1) true = b := rfl
    have e3 : TR.hf L U k (b + 1) true = TR.sizeS L U k b - 1 := rfl
    rw [e1, e3] at HCu HMs
    rw [e1] at HJo
    rw [e2] at HSo HSo0
    have hso := HSo0.out
    have hc1 : ((b + 1 : Nat) : Int) - 1 = (b : Int) := by omega
    have hc2 : (b : Int) + 1 - 1 = (b : Int) := by omega
    have hbb : b ≤ 100 := by omega
    have hf1 : ((TR.sizeS L U k b : Nat) : Int) - 1 = ((TR.sizeS L U k b - 1 : Nat) : Int) := by
      have h5 : 1 ≤ TR.sizeS L U k b := by have := h3.2.2; simpa using this
      omega
    rw [hso] at HCu hf1 HMs
    have HF1 := hideP hf1
    have hso1 : 1 ≤ so := by have h5 := h3.2.2; rw [show b + 1 - 1 = b from rfl, hso] at h5; exact h5
    clear e1 e2 e3 HR0 HSo0 h3 hso hf1 hc1
    generalize hsa : TR.sizeS L U k (b + 1) = sa at *
    have HSa := hideP hsa
    clear hsa
    have hsq : sa ≤ 100 := hs
    by_cases hsp : 2 < so
    · have hd : decide (2 < so) = true := decide_eq_true hsp
      have hgt : (2 : Int) < (so : Int) := by omega
      have HC := hideP (fun W t hW => HCu.out W t hW hsp)
      have HM := hideP (HMs.out hsp)
      rw [hd]
      clear HCu HMs hsp hd
      go_enter Try.func63, Try.ntmps63
      go_wp2_with fail
      refine (HSz.out _ (Fr.refl _)).mono ?_
      rintro _ w1 ⟨rfl, f1⟩
      have F1 := hideP f1
      clear f1
      go_wp2_with fail
      refine (HSo.out _ F1.out).mono ?_
      rintro _ w2 ⟨rfl, f2⟩
      have F2 := hideP (F1.out.trans f2)
      clear f2
      go_wp2_with fail
      refine (HSo.out _ F2.out).mono ?_
      rintro _ w3 ⟨rfl, f3⟩
      have F3 := hideP (F2.out.trans f3)
      clear f3
      have hf1 := HF1.out
      go_wp2_with fail
      refine (HJo.out _ F3.out).mono ?_
      rintro _ w4 ⟨rfl, t4, b4⟩
      have T4 := hideP t4
      have B4 := hideP (Below.trans (Below.mono F3.out hB) b4)
      have hB4 := hideP (Nat.le_trans hB B4.out.size)
      clear t4 b4
      go_wp2_with fail
      refine (HC.out _ T4.out hB4.out).mono ?_
      rintro _ w9 ⟨rfl, t5, b5⟩
      have T5 := hideP t5
      have B5 := hideP (Below.trans B4.out b5)
      clear t5 b5
      go_wp2_with fail
      go_ret
      exact ⟨rfl, by rw [HM.out]; exact T5.out, B5.out⟩
    · have hd : decide (2 < so) = false := decide_eq_false hsp
      have hgt : ((2 : Int) < (so : Int)) = False := by simp; omega
      have HM := hideP (HMn.out hsp)
      rw [hd]
      clear HCu HMs hsp hd
      go_enter Try.func63, Try.ntmps63
      go_wp2_with fail
      refine (HSz.out _ (Fr.refl _)).mono ?_
      rintro _ w1 ⟨rfl, f1⟩
      have F1 := hideP f1
      clear f1
      go_wp2_with fail
      refine (HSo.out _ F1.out).mono ?_
      rintro _ w2 ⟨rfl, f2⟩
      have F2 := hideP (F1.out.trans f2)
      clear f2
      go_wp2_with fail
      refine (HSo.out _ F2.out).mono ?_
      rintro _ w3 ⟨rfl, f3⟩
      have F3 := hideP (F2.out.trans f3)
      clear f3
      have hf1 := HF1.out
      go_wp2_with fail
      refine (HJo.out _ F3.out).mono ?_
      rintro _ w4 ⟨rfl, t4, b4⟩
      have T4 := hideP t4
      have B4 := hideP (Below.trans (Below.mono F3.out hB) b4)
      clear t4 b4
      go_wp2_with fail
      go_ret
      exact ⟨rfl, by rw [HM.out]; exact T4.out, B4.out⟩
end
end Go.Proofs.Ytmemapfboefngaa
namespace Go.Proofs.Ytmemapfboefngaa
open Go.ChangeShapes Go.WideShapes Go.ChangeAt Go.RowKit
set_option linter.unusedVariables false
set_option linter.unusedSimpArgs false
set_option maxRecDepth 100000
set_option maxHeartbeats 2000000
section
variable {B : Nat} {w w' : World} {Bc : Nat} {p q : Value} {zs : List (Sq × List TK.Pr)} {ys : List (Sq × List Int)}
theorem Tn.row1 (h : Tn B w Bc p q zs ys) {lv : Nat} (hl : lv < ys.length) {w3 : World} {ob : Option Nat} (hob : ys[lv].1.v.ownBlock = ob) (hG : w.grownBy w3 ob) (l' : List Int) (own3 : w3.ownsRow B 3 1 ys[lv].1.v l'.length (flat cdZ l')) :
    Tn B w3 Bc p q zs (ys.set lv (ys[lv].1, l')) ∧ Below B w w3 := by
  have hrow := h.u.row _ (List.getElem_mem hl)
  have hobt : ∀ k, ob = some k → ∃ cur, w.heap[k]? = some (.cells cur 3 (0, 0)) := fun k hk => own_block hrow k (hob.trans hk)
  have hobB : ob ≠ some Bc := by
    intro e
    obtain ⟨cur, hc⟩ := hobt Bc e
    exact absurd (h.box.ty hc) (by decide)
  have hlen : (ys.set lv (ys[lv].1, l')).length = ys.length := by simp
  refine ⟨⟨h.box.grown hG hobB, h.base, h.l.grownT (T' := 3) (by decide) (by decide) hobt hG, ?_⟩, ?_⟩
  · have hsp := get_split hl
    have hap := h.u.ap
    rw [hsp, List.pairwise_append, List.pairwise_append] at hap
    obtain ⟨⟨_, _, hAM⟩, _, hAC⟩ := hap
    have hu := h.u
    rw [hsp] at hu
    have e0 := set_split hl (ys[lv].1, l')
    have e1 : (ys.set lv (ys[lv].1, l')).map Prod.fst = ys.map Prod.fst := by
      rw [List.map_set]
      apply List.ext_getElem?
      intro j
      rw [List.getElem?_set]
      split
      · rename_i e
        subst e
        simp [hl]
      · rfl
    rw [e0]
    refine hu.edit (M' := [(ys[lv].1, l')]) ?_ ?_ ?_ (List.pairwise_singleton _ _) ?_
    · rw [← e0, hlen, e1]
      exact own_grownT h.u.own (T' := 3) (by decide) hobt hG
    · intro z hz
      have hz' : z ∈ ys := by
        rcases hz with hz | hz
        · exact List.mem_of_mem_take hz
        · exact List.mem_of_mem_drop hz
      have hap2 : Apart z.1.v.ownBlock ob := by
        rw [← hob]
        rcases hz with hz | hz
        · exact hAM z hz _ (by simp)
        · exact (hAC _ (List.mem_append.2 (.inr (by simp))) z hz).symm
      exact (h.u.row z hz').kept hG (by rcases hap2 with h | h; exact .inl h; exact .inr h)
    · intro z hz
      simp only [List.mem_singleton] at hz
      subst hz
      exact own3
    · intro z hz k hk
      simp only [List.mem_singleton] at hz
      subst hz
      exact .inr ⟨_, List.mem_singleton.2 rfl, hk⟩
  · have hb : ∀ k, ob = some k → B ≤ k := fun k hk => (hrow.lt k (hob.trans hk)).1
    exact ⟨hG.os, hG.tape, hG.output, hG.size, fun k hk => by
      rcases Nat.lt_or_ge k w.heap.size with h1 | h1
      · exact hG.block k h1 (fun e => by have := hb k e.symm; omega)
      · have := h.box.lt
        have := h.base
        omega⟩
theorem flat_set {l : List Int} {i : Nat} (x : Int) : flat cdZ (l.set i x) = (flat cdZ l).set i (.int .i64 x) := by
  have hone : ∀ l : List Int, flat cdZ l = l.map (fun x => Value.int .i64 x) := fun l => by
    induction l with
    | nil => rfl
    | cons x r ih => rw [flat_cons, ih]; rfl
  rw [hone, hone, List.map_set]
/-- the row of levels in the box written anew -/
theorem Tn.setU (h : Tn B w Bc p q zs ys) {q' : Value} {ys' : List (Sq × List Int)} (hu : OP cdZ 3 53 B w q' ys') : Tn B (w.setCell ⟨Bc, 1, none⟩ q') Bc p q' zs ys' ∧ Below B w (w.setCell ⟨Bc, 1, none⟩ q') := by
  have hs := grownBy_setCell w Bc 1 q'
  have hty : ∀ g, some Bc = some g → ∃ cur, w.heap[g]? = some (.cells cur 69 (0, 0)) := fun g e => by cases e; exact ⟨_, h.box⟩
  refine ⟨⟨?_, h.base, h.l.grownT (T' := 69) (by decide) (by decide) hty hs, hu.grownT (T' := 69) (by decide) (by decide) hty hs⟩, Below.setCell (Below.refl B w) h.base q'⟩
  have := h.box.set 1 q'
  simpa using this
theorem Tn.setL (h : Tn B w Bc p q zs ys) {p' : Value} {zs' : List (Sq × List TK.Pr)} (hl : OP cdPr 38 28 B w p' zs') : Tn B (w.setCell ⟨Bc, 0, none⟩ p') Bc p' q zs' ys ∧ Below B w (w.setCell ⟨Bc, 0, none⟩ p') := by
  have hs := grownBy_setCell w Bc 0 p'
  have hty : ∀ g, some Bc = some g → ∃ cur, w.heap[g]? = some (.cells cur 69 (0, 0)) := fun g e => by cases e; exact ⟨_, h.box⟩
  refine ⟨⟨?_, h.base, hl.grownT (T' := 69) (by decide) (by decide) hty hs, h.u.grownT (T' := 69) (by decide) (by decide) hty hs⟩, Below.setCell (Below.refl B w) h.base p'⟩
  have := h.box.set 0 p'
  simpa using this
theorem OP.nil {α : Type} {E : Cd α} {T Ts : TypeId} : OP E T Ts B w (.slice none 0 0) [] := ⟨World.ownsRow_nil _ _ _ _, fun z hz => by simp at hz, List.Pairwise.nil⟩
/-- the first rows -/
theorem OP.take {α : Type} {E : Cd α} {T Ts : TypeId} {g c : Nat} {zs : List (Sq × List α)} (h : OP E T Ts B w (.slice (some ⟨g, 0, none⟩) zs.length c) zs) (i : Nat) (hi : i ≤ zs.length) : OP E T Ts B w (.slice (some ⟨g, 0, none⟩) i c) (zs.take i) := by
  have e : (zs.take i).length = i := by rw [List.length_take]; omega
  refine ⟨?_, fun z hz => h.row z (List.mem_of_mem_take hz), h.ap.sublist (List.take_sublist _ _)⟩
  have h1 := own_cut h.own i hi
  rw [e]
  have e2 : flat cdS ((zs.take i).map Prod.fst) = (flat cdS (zs.map Prod.fst)).take (i * 1) := by
    rw [List.map_take]
    exact (flat_take cdS (zs.map Prod.fst) i).symm
  rw [e2]
  exact h1
end
section
variable {B : Nat} {w w' : World} {Bc : Nat} {L : List (List TK.Pr)} {U : List (List Nat)}
/-- a number of a level: where it lies, and the tree behind a store there -/
theorem Tr.num (h : Tr B w Bc L U) (k a : Nat) (hk : k < U.length) (ha : a < (U[k]).length) : ∃ g c g2 c2, w.cell? ⟨Bc, 1, none⟩ = some (.slice (some ⟨g, 0, none⟩) U.length c) ∧ w.cell? ⟨g, k, none⟩ = some (.slice (some ⟨g2, 0, none⟩) (U[k]).length c2) ∧ w.cell? ⟨g2, a, none⟩ = some (.int .i64 ((U[k])[a] : Int)) ∧ w.frozen? ⟨g2, a, none⟩ = false ∧
    ∀ x : Nat, Tr B (w.setCell ⟨g2, a, none⟩ (.int .i64 (x : Int))) Bc L (U.set k ((U[k]).set a x)) ∧ Below B w (w.setCell ⟨g2, a, none⟩ (.int .i64 (x : Int))) := by
  obtain ⟨p, q, zs, ys, h1, h2, h3⟩ := h
  have l2 := congrArg List.length h3
  simp only [List.length_map] at l2
  have hl : k < ys.length := by omega
  have hy := map_get h3 hl (by simpa using hk)
  simp only [List.getElem_map] at hy
  obtain ⟨g, c, rfl, hc, hm, hcell, hfz, av, kv, hv⟩ := h1.u.cell hl
  have hrow := h1.u.row _ (List.getElem_mem hl)
  have hrow0 := hrow
  rw [hv] at hrow
  obtain ⟨g2, rfl, _, hcell2, hf2, _⟩ := own_int (B := B) (n := 0) hrow (i := a) (by rw [hy, nI_len]; exact ha)
  have x1 := h1.box.cell 1 (u := .slice (some ⟨g, 0, none⟩) ys.length c) rfl
  have hln : (ys[k]).2.length = (U[k]).length := by rw [hy, nI_len]
  rw [hv, hln] at hcell
  refine ⟨g, c, g2, kv, by rw [x1, l2], hcell, ?_, hf2 a, fun x => ?_⟩
  · rw [hcell2]
    congr 2
    simp only [hy, nI_get]
  · have hs := hrow.stored a (.int .i64 (x : Int))
    have e1 : (ys[k]).1.v.ownBlock = some g2 := by rw [hv]; rfl
    have := h1.row1 hl e1 (grownBy_setCell w g2 a (.int .i64 (x : Int))) ((ys[k]).2.set a (x : Int)) (by
      rw [flat_set, List.length_set, hv]
      exact hs.1)
    refine ⟨⟨_, _, zs, _, this.1, h2, ?_⟩, this.2⟩
    have e3 : (ys[k]).2.set a (x : Int) = nI ((U[k]).set a x) := by
      rw [hy]
      unfold nI
      rw [List.map_set]
    rw [e3]
    exact map_set_nI h3 k _ _
def TR.topL (L : List (List TK.Pr)) (U : List (List Nat)) : List (List TK.Pr) := if U = [] ∧ L.headD [] = [] then [] else L
def TR.topU (U : List (List Nat)) : List (List Nat) := if U ≠ [] ∧ (U.getLastD []).headD 0 = 1 then U.dropLast else U
theorem shrunkTop_any (h : Tr B w Bc L U) (hb : Bd L U) (h0 : U = [] → L ≠ []) (h1 : ∀ u, U.getLast? = some u → u ≠ []) :
    Calls Try.prog 64 #[.pointer (some ⟨Bc, 0, none⟩)] w fun e w' => e = .returned (.tuple #[]) ∧ Tr B w' Bc (TR.topL L U) (TR.topU U) ∧ Below B w w' := by
  have ht := h
  obtain ⟨p, q, zs, ys, t1, t2, t3⟩ := h
  have l1 := congrArg List.length t2
  have l2 := congrArg List.length t3
  simp only [List.length_map] at l1 l2
  have hbu := hb.u
  obtain ⟨pa, pc, rfl⟩ := own_slice t1.l.own
  obtain ⟨qa, qc, rfl⟩ := own_slice t1.u.own
  have hT := t1
  rw [l2] at t1
  have x1 := t1.box.cell 1 (u := .slice qa U.length qc) rfl
  have x0 := t1.box.cell 0 (u := .slice pa zs.length pc) rfl
  have HX := hideP (show _ ∧ _ from ⟨x0, t1.box.frozen 0⟩)
  have HY := hideP (show _ ∧ _ from ⟨x1, t1.box.frozen 1⟩)
  by_cases hU : U = []
  · subst hU
    cases L with
    | nil => exact absurd rfl (h0 rfl)
    | cons l t =>
      have HSz := hideP (sizeS_any ht hb 0 0 (Nat.zero_le _) (by simp [TR.lenS]))
      have e1 : TR.sizeS (l :: t) [] 0 0 = l.length := rfl
      rw [e1] at HSz
      have HL := hideP (fun (W : World) (f : Fr w W) => (hT.fr f).setL (p' := .slice none 0 0) (OP.nil (B := B) (w := W)))
      have HT := hideP ht
      have HQ := hideP t3
      have hr : l.length ≤ 100 := hb.r l (by simp)
      simp only [List.length_nil] at x1
      have HQ2 := hideP t2
      by_cases hl0 : l = []
      · subst hl0
        clear t1 hT ht hb h0 h1 t3 t2 hbu l1 l2
        go_enter Try.func64, Try.ntmps64
        go_wp2_with fail
        refine (HSz.out).mono ?_
        rintro _ w1 ⟨rfl, f1⟩
        obtain ⟨b0, b1⟩ := c1f_after f1 HX.out
        have HE := hideP (HL.out _ f1)
        have HB1 := hideP (Below.mono f1 (Nat.le_trans HT.out.choose_spec.choose_spec.choose_spec.choose_spec.1.base (Nat.le_of_lt HT.out.choose_spec.choose_spec.choose_spec.choose_spec.1.box.lt)))
        clear f1
        go_wp2_with fail
        refine bodyPost_end (v := .tuple #[]) (results_none rfl _ _ _) rfl ?_
        refine ⟨rfl, ?_, Below.trans HB1.out HE.out.2⟩
        have e3 : TR.topL ([] :: t) [] = [] := by simp [TR.topL]
        rw [e3]
        exact ⟨_, _, [], _, HE.out.1, rfl, HQ.out⟩
      · have hl1 : (((l.length : Nat) : Int) == 0) = false := by
          simp only [beq_eq_false_iff_ne, ne_eq]
          intro e
          exact hl0 (List.length_eq_zero_iff.1 (by omega))
        have hl2 : ¬ (((l.length : Nat) : Int) = 0) := by
          intro e
          exact hl0 (List.length_eq_zero_iff.1 (by omega))
        have HL0 := hideP hl0
        clear t1 hT ht hb h0 h1 t3 t2 hbu l1 l2 hl0
        generalize l.length = n at *
        go_enter Try.func64, Try.ntmps64
        go_wp2_with fail
        refine (HSz.out).mono ?_
        rintro _ w1 ⟨rfl, f1⟩
        have HE := hideP (HT.out.fr f1)
        have HB1 := hideP (Below.mono f1 (Nat.le_trans HT.out.choose_spec.choose_spec.choose_spec.choose_spec.1.base (Nat.le_of_lt HT.out.choose_spec.choose_spec.choose_spec.choose_spec.1.box.lt)))
        clear f1
        go_wp2_with fail
        refine bodyPost_end (v := .tuple #[]) (results_none rfl _ _ _) rfl ?_
        refine ⟨rfl, ?_, HB1.out⟩
        have h3 := HL0.out
        have e3 : TR.topL (l :: t) [] = l :: t := by simp [TR.topL, h3]
        rw [e3]
        exact HE.out
  · obtain ⟨n, hn⟩ : ∃ n, U.length = n + 1 := ⟨U.length - 1, by
      have : U.length ≠ 0 := fun e => hU (List.length_eq_zero_iff.1 e)
      omega⟩
    have hnU : n < U.length := by omega
    have hlast : U.getLast? = some U[n] := by
      rw [List.getLast?_eq_getElem?, hn]
      simp [hnU]
    have hne := h1 _ hlast
    have hpos : 0 < (U[n]).length := by
      rcases Nat.eq_zero_or_pos (U[n]).length with h | h
      · exact absurd (List.length_eq_zero_iff.1 h) hne
      · exact h
    have e1 : TR.sizeS L U (n + 1) 0 = (U.getLastD []).headD 0 := by
      have e2 : U.getLastD [] = U[n] := by
        rw [List.getLastD_eq_getLast?, hlast]; rfl
      simp only [TR.sizeS, getD_get hnU, e2]
      cases hh : U[n] with
      | nil => rw [hh] at hpos; simp at hpos
      | cons x t => rfl
    have hlt : (U.getLastD []).headD 0 ≤ 100 := by
      have e2 : U.getLastD [] = U[n] := by
        rw [List.getLastD_eq_getLast?, hlast]; rfl
      rw [e2]
      cases hh : U[n] with
      | nil => simp
      | cons x t => exact (hb.v _ (List.getElem_mem hnU)).2 x (by rw [hh]; simp)
    have HSz := hideP (sizeS_any ht hb (n + 1) 0 (by omega) (by simp only [TR.lenS, getD_get hnU]; exact hpos))
    rw [e1] at HSz
    obtain ⟨g, rfl, _, hnc, hcm, _, _, _, _⟩ := own_parts hT.u.own (by omega)
    have HQ := hideP t3
    have HQ2 := hideP t2
    have hyl : ys.length = n + 1 := by omega
    have HU := hideP (fun (W : World) (f : Fr w W) => (hT.fr f).setU ((hT.fr f).u.take n (by omega)))
    have HT := hideP ht
    have HHU := hideP hU
    have hDr := hideP (show (ys.take n).map Prod.snd = (U.dropLast).map nI from by
      rw [List.map_take, t3, ← List.map_take]
      congr 1
      rw [List.dropLast_eq_take, hn]
      rfl)
    rw [hn] at x1 HY
    have hn9 : n ≤ 100 := by omega
    have hnq : n ≤ qc := by omega
    have hnq2 : (n : Int) ≤ (qc : Int) := by omega
    have hz1 : (((n : Int) + 1 == 0)) = false := by simp; omega
    have hz2 : ¬ ((n : Int) + 1 = 0) := by omega
    have hz3 : (0 : Int) < (n : Int) + 1 := by omega
    have hz4 : (n : Int) + 1 - 1 = (n : Int) := by omega
    have HBw := hideP (show B ≤ w.heap.size from Nat.le_trans hT.base (Nat.le_of_lt hT.box.lt))
    have HTp := hideP (show (U.getLastD []).headD 0 = 1 → TR.topU U = U.dropLast from fun e => by unfold TR.topU; rw [if_pos ⟨hU, e⟩])
    have HTq := hideP (show (U.getLastD []).headD 0 ≠ 1 → TR.topU U = U from fun e => by unfold TR.topU; rw [if_neg (fun h => e h.2)])
    generalize (U.getLastD []).headD 0 = x at *
    clear t1 hT ht hb h0 h1 t3 t2 hbu l1 l2 hn hnU hlast hne hpos e1 hyl hU
    by_cases hx : x = 1
    · subst hx
      go_enter Try.func64, Try.ntmps64
      go_wp2_with fail
      refine (HSz.out).mono ?_
      rintro _ w1 ⟨rfl, f1⟩
      obtain ⟨b0, b1⟩ := c1f_after f1 HY.out
      have HE := hideP (HU.out _ f1)
      have HB1 := hideP (Below.mono f1 HBw.out)
      clear f1
      go_wp2_with fail
      refine bodyPost_end (v := .tuple #[]) (results_none rfl _ _ _) rfl ?_
      refine ⟨rfl, ?_, Below.trans HB1.out HE.out.2⟩
      have h3 := HHU.out
      rw [show TR.topL L U = L by simp [TR.topL, h3], show TR.topU U = U.dropLast by first | exact HTp.out rfl | exact HTp.out trivial | exact HTp.out]
      exact ⟨_, _, zs, _, HE.out.1, HQ2.out, hDr.out⟩
    · have hx1 : (((x : Nat) : Int) == 1) = false := by simp; omega
      have hx2 : ¬ (((x : Nat) : Int) = 1) := by omega
      have HX2 := hideP hx
      clear hx
      go_enter Try.func64, Try.ntmps64
      go_wp2_with fail
      refine (HSz.out).mono ?_
      rintro _ w1 ⟨rfl, f1⟩
      have HE := hideP (HT.out.fr f1)
      have HB1 := hideP (Below.mono f1 HBw.out)
      clear f1
      go_wp2_with fail
      refine bodyPost_end (v := .tuple #[]) (results_none rfl _ _ _) rfl ?_
      refine ⟨rfl, ?_, HB1.out⟩
      have h3 := HHU.out
      have h4 := HX2.out
      rw [show TR.topL L U = L by simp [TR.topL, h3], HTq.out h4]
      exact HE.out
end
end Go.Proofs.Ytmemapfboefngaa
namespace Go.Proofs.Ytmemapfboefngaa
set_option linter.unusedVariables false
set_option linter.unusedSimpArgs false
set_option maxRecDepth 100000
namespace TR
section
variable {P : Type} {L : List (List P)} {U : List (List Nat)}
/-- all levels, the leaves' sizes first -/
def V (L : List (List P)) (U : List (List Nat)) : List (List Nat) := sz L :: U
theorem lenS_V (k : Nat) : lenS L U k = ((V L U).getD k []).length := by
  cases k with
  | zero => exact (sz_len L).symm
  | succ k => rfl
theorem sizeS_V (k a : Nat) : sizeS L U k a = ((V L U).getD k []).getD a 0 := by
  cases k with
  | zero => exact (sz_get L a).symm
  | succ k => rfl
theorem cutS_V {k a f : Nat} (hf : f ≤ sizeS L U k a) : V (cutS k a f L U).1 (cutS k a f L U).2 = (V L U).set k (cut ((V L U).getD k []) a f) := by
  cases k with
  | zero =>
    have hf' : f ≤ (L.getD a []).length := hf
    show sz (cutL L a f) :: U = _
    rw [sz_cut L hf']
    rfl
  | succ k => rfl
theorem joinS_V {k a : Nat} : V (joinS k a L U).1 (joinS k a L U).2 = (V L U).set k (join ((V L U).getD k []) a) := by
  cases k with
  | zero =>
    show sz (joinL L a) :: U = _
    rw [sz_join L a]
    rfl
  | succ k => rfl
theorem getD_mid {α : Type} (A : List α) (s : α) (C : List α) (d : α) : (A ++ s :: C).getD A.length d = s := by
  simp [List.getD_eq_getElem?_getD]
theorem set_mid {α : Type} (A : List α) (s x : α) (C : List α) : (A ++ s :: C).set A.length x = A ++ x :: C := by
  rw [List.set_append_right _ _ (Nat.le_refl _)]
  simp
theorem getD_mid1 {α : Type} (A : List α) (s t : α) (C : List α) (d : α) : (A ++ s :: t :: C).getD (A.length + 1) d = t := by
  rw [List.getD_eq_getElem?_getD, List.getElem?_append_right (by omega)]
  simp
theorem set_mid1 {α : Type} (A : List α) (s t x : α) (C : List α) : (A ++ s :: t :: C).set (A.length + 1) x = A ++ s :: x :: C := by
  rw [List.set_append_right _ _ (by omega), show A.length + 1 - A.length = 1 by omega]
  rfl
theorem put_set {u : List Nat} {n x : Nat} (h : n < u.length) : put u n x = u.set n x := by
  rw [List.set_eq_take_append_cons_drop, if_pos h]; rfl
/-- rows of few numbers, and these small -/
def Sm (m : Nat) (r : List Nat) : Prop := r.length ≤ m ∧ ∀ x ∈ r, x ≤ 6
theorem Sm.mono {m m' : Nat} {r : List Nat} (h : Sm m r) (hm : m ≤ m') : Sm m' r := ⟨Nat.le_trans h.1 hm, h.2⟩
theorem Sm.get {m a : Nat} {r : List Nat} (h : Sm m r) : r.getD a 0 ≤ 6 := by
  rw [List.getD_eq_getElem?_getD]
  cases e : r[a]? with
  | none => simp
  | some x => exact h.2 x (List.mem_of_getElem? e)
theorem Sm.cut {m a f : Nat} {r : List Nat} (h : Sm m r) (ha : a < r.length) (hf : f ≤ 6) : Sm (m + 1) (cut r a f) := by
  refine ⟨by rw [cut_length ha]; have := h.1; omega, fun x hx => ?_⟩
  have hg := h.get (a := a)
  simp only [TR.cut, List.mem_append, List.mem_cons] at hx
  rcases hx with g | rfl | rfl | g
  · exact h.2 x (List.mem_of_mem_take g)
  · exact hf
  · omega
  · exact h.2 x (List.mem_of_mem_drop g)
theorem Sm.put {m a y : Nat} {r : List Nat} (h : Sm m r) (ha : a < r.length) (hy : y ≤ 6) : Sm m (put r a y) := by
  refine ⟨by rw [put_length ha]; exact h.1, fun x hx => ?_⟩
  simp only [TR.put, List.mem_append, List.mem_cons] at hx
  rcases hx with g | rfl | g
  · exact h.2 x (List.mem_of_mem_take g)
  · exact hy
  · exact h.2 x (List.mem_of_mem_drop g)
/-- where one has too many: what is known ahead of a round -/
structure GI (FL : List (List P)) (FU : List (List Nat)) (k a : Nat) (L : List (List P)) (U : List (List Nat)) (A : List (List Nat)) (s : List Nat) (up : List (List Nat)) : Prop where
  v : V L U = A ++ s :: up
  hk : A.length = k
  ha : a < s.length
  rest : Rest s a
  hi : s.getD a 0 ≤ 5
  lv : Lv s.length up
  fv : V FL FU = A ++ (grow s up a).1 :: (grow s up a).2
  fl : FL = if k = 0 ∧ 4 < s.getD a 0 then cutL L a 2 else L
  sA : ∀ r ∈ A, Sm 66 r
  sS : Sm 65 s
  sU : ∀ r ∈ up, Sm 65 r
  few : A.length + up.length ≤ 20
variable {FL : List (List P)} {FU A up : List (List Nat)} {s : List Nat} {k a : Nat}
theorem GI.len (h : GI FL FU k a L U A s up) : U.length = k + up.length := by
  have := congrArg List.length h.v
  simp only [V, List.length_cons, List.length_append] at this
  have := h.hk
  omega
theorem GI.sz (h : GI FL FU k a L U A s up) : sizeS L U k a = s.getD a 0 := by
  rw [sizeS_V, h.v, ← h.hk, getD_mid]
theorem GI.ln (h : GI FL FU k a L U A s up) : lenS L U k = s.length := by
  rw [lenS_V, h.v, ← h.hk, getD_mid]
theorem GI.done (h : GI FL FU k a L U A s up) (h4 : s.getD a 0 ≤ 4) : FL = L ∧ FU = U := by
  have e : grow s up a = (s, up) := by
    cases up with
    | nil => rw [grow, if_pos h4]
    | cons u us => rw [grow, if_pos h4]
  have fv := h.fv
  rw [e, ← h.v] at fv
  simp only [V, List.cons.injEq] at fv
  refine ⟨?_, fv.2⟩
  rw [h.fl, if_neg (by omega)]
/-- the leaves behind a cut -/
theorem GI.cutL (h : GI FL FU k a L U A s up) (h5 : 4 < s.getD a 0) : (cutS k a 2 L U).1 = FL := by
  rw [h.fl]
  cases k with
  | zero => rw [if_pos ⟨rfl, h5⟩]; rfl
  | succ k => rw [if_neg (by omega)]; rfl
theorem GI.cutV (h : GI FL FU k a L U A s up) (h5 : 4 < s.getD a 0) : V (cutS k a 2 L U).1 (cutS k a 2 L U).2 = A ++ cut s a 2 :: up := by
  rw [cutS_V (by rw [h.sz]; omega), h.v, ← h.hk, getD_mid, set_mid]
theorem GI.top (h : GI FL FU k a L U A s []) (h5 : 4 < s.getD a 0) : (cutS k a 2 L U).2 ++ [[2]] = FU := by
  have fv := h.fv
  rw [grow, if_neg (by omega)] at fv
  have cv := h.cutV h5
  have e : V FL FU = V (cutS k a 2 L U).1 (cutS k a 2 L U).2 ++ [[2]] := by rw [fv, cv]; simp
  simp only [V, List.cons_append, List.cons.injEq] at e
  exact e.2.symm
theorem GI.next {u : List Nat} {us : List (List Nat)} (h : GI FL FU k a L U A s (u :: us)) (h5 : 4 < s.getD a 0) :
    (cutS k a 2 L U).2.getD k [] = u ∧ a < u.sum ∧ above u a < u.length ∧ u.sum ≤ 65 ∧ (∀ x, x = (cutS k a 2 L U).2.set k (u.set (above u a) (u.getD (above u a) 0 + 1)) →
      GI FL FU (k + 1) (above u a) (cutS k a 2 L U).1 x (A ++ [cut s a 2]) (put u (above u a) (u.getD (above u a) 0 + 1)) us) := by
  obtain ⟨l1, l2, l3⟩ := h.lv
  have ha := h.ha
  have hn : above u a < u.length := above_lt (by omega)
  have hs65 := h.sS.1
  have hu := get_all l2 hn
  have cv := h.cutV h5
  have hk := h.hk
  have e1 : (cutS k a 2 L U).2.getD k [] = u := by
    have := congrArg (fun l => l.getD (k + 1) []) cv
    simp only [← hk, getD_mid1] at this
    rw [← hk]
    exact this
  refine ⟨e1, by omega, hn, by omega, fun x hx => ?_⟩
  subst hx
  have hcl := h.cutL h5
  have fv := h.fv
  rw [grow, if_neg (by omega)] at fv
  generalize above u a = n at *
  refine ⟨?_, by simp [hk], by rw [put_length hn]; exact hn, put_rest hn (all_rest l2 n), by rw [put_at hn]; omega, by rw [put_length hn]; exact l3, ?_, ?_, ?_, ?_, ?_, ?_⟩
  · have e2 : V (cutS k a 2 L U).1 ((cutS k a 2 L U).2.set k (u.set n (u.getD n 0 + 1))) = (V (cutS k a 2 L U).1 (cutS k a 2 L U).2).set (k + 1) (u.set n (u.getD n 0 + 1)) := rfl
    rw [e2, cv, ← hk, set_mid1, put_set hn]
    simp
  · rw [fv]
    simp
  · rw [if_neg (by omega)]
    exact hcl.symm
  · intro r hr
    rcases List.mem_append.1 hr with hr | hr
    · exact h.sA r hr
    · simp only [List.mem_singleton] at hr
      subst hr
      exact h.sS.cut ha (by decide)
  · exact (h.sU u (by simp)).put hn (by omega)
  · exact fun r hr => h.sU r (by simp [hr])
  · have := h.few
    simp at this ⊢
    omega
end
end TR
theorem Bd.of {L : List (List TK.Pr)} {U : List (List Nat)} (h : ∀ r ∈ TR.V L U, TR.Sm 66 r) (hl : U.length ≤ 100) : Bd L U := by
  have h0 := h (TR.sz L) (by simp [TR.V])
  refine ⟨by have := h0.1; rw [TR.sz_len] at this; omega, fun x hx => ?_, hl, fun x hx => ?_⟩
  · have := h0.2 x.length (by unfold TR.sz; exact List.mem_map.2 ⟨x, hx, rfl⟩)
    omega
  · have := h x (by simp [TR.V, hx])
    exact ⟨by have := this.1; omega, fun y hy => by have := this.2 y hy; omega⟩
theorem TR.GI.bd {FL L : List (List TK.Pr)} {FU U A up : List (List Nat)} {s : List Nat} {k a : Nat} (h : TR.GI FL FU k a L U A s up) : Bd L U := by
  refine Bd.of (fun r hr => ?_) (by have := h.len; have := h.few; have := h.hk; omega)
  rw [h.v] at hr
  rcases List.mem_append.1 hr with hr | hr
  · exact h.sA r hr
  · rcases List.mem_cons.1 hr with rfl | hr
    · exact h.sS.mono (by decide)
    · exact (h.sU r hr).mono (by decide)
theorem TR.GI.bd2 {FL L : List (List TK.Pr)} {FU U A up : List (List Nat)} {s : List Nat} {k a : Nat} (h : TR.GI FL FU k a L U A s up) (h5 : 4 < s.getD a 0) : Bd (TR.cutS k a 2 L U).1 (TR.cutS k a 2 L U).2 := by
  have cv := h.cutV h5
  refine Bd.of (fun r hr => ?_) ?_
  · rw [cv] at hr
    rcases List.mem_append.1 hr with hr | hr
    · exact h.sA r hr
    · rcases List.mem_cons.1 hr with rfl | hr
      · exact h.sS.cut h.ha (by decide)
      · exact (h.sU r hr).mono (by decide)
  · have := congrArg List.length cv
    simp only [TR.V, List.length_cons, List.length_append] at this
    have := h.few
    omega
end Go.Proofs.Ytmemapfboefngaa
