/-
  Arrays of pages; what upToLast of package disk answers.
-/
import Derived.Test.YtcgafodaohmcmaaDkC
import Derived.Laws.CopyRow
import Derived.Laws.IdiomCopy
namespace Go.Proofs.Ytcgafodaohmcmaa
open Go.ChangeShapes Go.WideShapes Go.ChangeAt Go.RowKit
set_option linter.unusedVariables false
set_option linter.unusedSimpArgs false
set_option maxRecDepth 100000

namespace JN
theorem trim_snoc (p : B) : ∀ (a : List B), trim (a ++ [p]) = if p.size = 0 then trim a else a ++ [p]
  | [] => by simp [trim]
  | x :: a => by
    rw [List.cons_append, trim, trim_snoc p a]
    by_cases h : p.size = 0
    · simp only [h, if_true]; rw [trim]
    · simp only [h, if_false]
      cases a <;> simp
theorem trim_take1 (l : List B) (n : Nat) (h : n < l.length) : trim (l.take (n + 1)) = if l[n].size = 0 then trim (l.take n) else l.take (n + 1) := by
  rw [List.take_succ_eq_append_getElem h, trim_snoc]
theorem land_snoc {T : Type} (x : Wr T) : ∀ (l : List (Wr T)) (p : Pg T) (m : Nat → Bool), land p (l ++ [x]) m = if m l.length then upd (land p l m) x.1 x.2 else land p l m
  | [], p, m => by simp [land]
  | w :: l, p, m => by
    rw [List.cons_append, land, land_snoc x l]
    rfl
def places (f : Pg B) : List B := (List.range 32).map f
theorem places_len (f : Pg B) : (places f).length = 32 := by simp [places]
theorem places_upd (f : Pg B) (n : Nat) (t : B) (hn : n < 32) : (places f).set n t = places (upd f n t) := by
  apply List.ext_getElem (by simp [places])
  intro i h1 h2
  simp only [places, List.getElem_map, List.getElem_range, List.getElem_set]
  by_cases e : n = i
  · subst e; simp [upd]
  · simp [upd, e, Ne.symm e]
theorem pages_eq (f : Pg B) : pagesOf f = trim (places f) := rfl
theorem places_fn (l : List B) (h : l.length ≤ 32) : l ++ List.replicate (32 - l.length) bl = places (fn l) := by
  apply List.ext_getElem (by simp [places]; omega)
  intro i h1 h2
  simp only [places, List.getElem_map, List.getElem_range, fn]
  by_cases hi : i < l.length
  · rw [List.getElem_append_left hi, List.getD_eq_getElem?_getD, List.getElem?_eq_getElem hi]; rfl
  · rw [List.getElem_append_right (by omega), List.getD_eq_getElem?_getD, List.getElem?_eq_none (by omega)]; simp
end JN
/-- pages as they lie in an array -/
def sV (l : List JN.B) : Array Value := (flat cdP l).toArray
theorem flatP (l : List JN.B) : flat cdP l = l.map Value.string := by
  induction l with
  | nil => rfl
  | cons x l ih => rw [flat_cons, ih]; rfl
theorem sV_get (l : List JN.B) (i : Nat) (h : i < l.length) : (sV l)[i]? = some (.string l[i]) := by
  simp only [sV, flatP]
  simp [h]
theorem sV_set (l : List JN.B) (i : Nat) (t : JN.B) : (sV l).setIfInBounds i (.string t) = sV (l.set i t) := by
  simp only [sV, flatP, List.map_set]
  simp
theorem sV_size (l : List JN.B) : (sV l).size = l.length := by simp [sV, flatP]
/-- an array of pages, a block of the call's own -/
structure Pl (w : World) (b : Nat) (l : List JN.B) : Prop where
  len : l.length = 32
  at_ : Blk w b (sV l) 51
theorem Pl.fr {w w' : World} {b : Nat} {l : List JN.B} (h : Pl w b l) (f : Fr w w') : Pl w' b l := ⟨h.len, h.at_.fr f⟩
theorem Pl.cell {w : World} {b : Nat} {l : List JN.B} (h : Pl w b l) (i : Nat) (hi : i < l.length) : w.cell? ⟨b, i, none⟩ = some (.string l[i]) := h.at_.cell i (sV_get l i hi)
theorem Pl.set {w : World} {b : Nat} {l : List JN.B} (h : Pl w b l) (i : Nat) (t : JN.B) : Pl (w.setCell ⟨b, i, none⟩ (.string t)) b (l.set i t) :=
  ⟨by rw [List.length_set]; exact h.len, by rw [← sV_set]; exact h.at_.set i _⟩
theorem Pl.load {w : World} {b : Nat} {l : List JN.B} (h : Pl w b l) : (loadCells ⟨b, 0, none⟩ 32).run Try.prog w = .ok (sV l) w := by
  have := run_loadCells_list (P := Try.prog) w ⟨b, 0, none⟩ (flat cdP l) (by
    intro j v hj
    rw [Addr.add_lit, Nat.zero_add]
    exact h.at_.cell j (by simpa [sV] using hj))
  rw [flat_len, h.len] at this
  exact this

set_option maxHeartbeats 1000000 in
theorem upToLast_any (l : List JN.B) (hl : l.length = 32) (w : World) :
    Calls Try.prog 23 #[.agg (sV l)] w fun e w' => ∃ v, e = .returned v ∧ w'.ownsRow w.heap.size 9 1 v (JN.trim l).length (flat cdP (JN.trim l)) ∧ Fr w w' := by
  have f1 : Fr w (w.alloc (.cells (sV l) 51)) := (Fr.refl w).alloc _
  have hp : Pl (w.alloc (.cells (sV l) 51)) w.heap.size l := ⟨hl, Blk.new w _ _⟩
  have cl := fun (n : Nat) (hn : n ≤ 32) => cloneS_any (.slice (some ⟨w.heap.size, 0, none⟩) n 32) (l.take n) (w.alloc (.cells (sV l) 51)) (by
    refine ⟨_, 32, by rw [List.length_take, Nat.min_eq_left (by omega)], by rw [List.length_take]; omega, ?_⟩
    right
    refine ⟨w.heap.size, 0, rfl, hp.at_.lt, ?_⟩
    intro j u hj
    rw [Nat.zero_add]
    refine hp.at_.cell j ?_
    simp only [flatP, List.getElem?_map, List.getElem?_take] at hj
    simp only [sV, flatP]
    split at hj
    · simpa using hj
    · simp at hj) (by rw [List.length_take]; omega)
  have HP := hideP hp
  have HF := hideP f1
  have HC := hideP cl
  clear hp f1 cl
  go_enter Try.func23, Try.ntmps23
  go_wp2_with fail
  go_loop [3] (fun sv => ∃ n : Nat, sv = .int .i64 n ∧ n ≤ 32 ∧ JN.trim l = JN.trim (l.take n)) (fun sv => (intOf sv).toNat)
  case atStart => exact ⟨32, rfl, Nat.le_refl _, by rw [← hl, List.take_length]⟩
  case round =>
    obtain ⟨n, rfl, hn, ht⟩ := hrel
    cases n with
    | zero =>
      have HT := hideP ht
      clear ht
      have c := HC.out 0 (by omega)
      go_wp2_with fail
      refine c.mono ?_
      rintro _ w2 ⟨v, rfl, ho, f2⟩
      have HO := hideP ho
      clear ho
      go_wp2_with fail
      go_ret
      refine ⟨_, rfl, ?_, HF.out.trans f2⟩
      have e : JN.trim l = [] := by rw [HT.out]; rfl
      rw [e]
      exact own_low HO.out (by simp)
    | succ n =>
      have hlt : n < l.length := by omega
      have c0 := HP.out.cell n hlt
      have HT := hideP (ht.trans (JN.trim_take1 l n hlt))
      clear ht
      have hn1 : (n : Int) < 32 := by omega
      generalize hx : l[n] = x at c0 HT
      by_cases h0 : x.size = 0
      · have ex : x = ⟨#[]⟩ := JN.size0 h0
        have HT2 := hideP (HT.out.trans (if_pos h0))
        clear HT
        subst ex
        clear h0 hx
        go_wp2_with fail
        go_round
        case rel => exact ⟨n, by go_num, by omega, HT2.out⟩
        case measure => simp [intOf]
      · have ex : (ByteArray.toList x).isEmpty = false := by rw [emp_is]; simpa using h0
        have HT2 := hideP (HT.out.trans (if_neg h0))
        have c := HC.out (n + 1) hn
        clear HT h0 hx
        have hn2 : (n : Int) + 1 ≤ 32 := by omega
        have hn3 : (0 : Int) ≤ (n : Int) + 1 := by omega
        go_wp2_with fail
        refine c.mono ?_
        rintro _ w2 ⟨v, rfl, ho, f2⟩
        have HO := hideP ho
        clear ho
        go_wp2_with fail
        go_ret
        refine ⟨_, rfl, ?_, HF.out.trans f2⟩
        rw [HT2.out]
        exact own_low HO.out (by simp)
end Go.Proofs.Ytcgafodaohmcmaa
