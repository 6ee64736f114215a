/-
  A law for a statement whose order is open: what holds of the operations that are done, whichever they are, and what each one more does to it.
-/
import Derived.Test.YtcgafodaohmcmaaDkBg
import Derived.Test.YtcgafodaohmcmaaAppL
import Derived.Orders
namespace Go.Proofs.Ytcgafodaohmcmaa
open Go.ChangeShapes Go.WideShapes Go.ChangeAt Go.RowKit
set_option linter.unusedVariables false
set_option linter.unusedSimpArgs false
section
variable {P : Program} {ops : Array Oper} {Q : Exit → Act → World → Prop} {md : Region.Mode}
theorem filt_set : ∀ (l : List Bool) (i : Nat), l[i]? = some false → ((l.set i true).filter (fun b => !b)).length + 1 = (l.filter (fun b => !b)).length
  | [], i, h => by simp at h
  | b :: l, 0, h => by
    simp at h
    subst h
    simp
  | b :: l, i + 1, h => by
    simp only [List.getElem?_cons_succ] at h
    have := filt_set l i h
    cases b
    · simp only [List.set_cons_succ, List.filter_cons, Bool.not_false, if_true, List.length_cons]; omega
    · simp only [List.set_cons_succ, List.filter_cons, Bool.not_true, Bool.false_eq_true, if_false]; exact this
theorem not_listed {listed : Array Bool} {i : Nat} (h : listed.getD i true = false) : listed.toList[i]? = some false := by
  rw [Array.getElem?_toList]
  unfold Array.getD at h
  split at h
  · rename_i hi
    rw [Array.getElem?_eq_getElem hi]
    exact congrArg some h
  · cases h
theorem ready_spec {listed : Array Bool} {i : Nat} (h : i ∈ Region.ready md ops listed) : i < ops.size ∧ listed.getD i true = false := by
  unfold Region.ready at h
  rw [List.mem_filter, List.mem_range, Bool.and_eq_true] at h
  exact ⟨h.1, by simpa using h.2.1⟩
/-- what holds of the operations that are done stays so, operation by operation -/
theorem wpAny_inv (I : Array Bool → Act → World → Prop)
    (hstep : ∀ listed a w, listed.size = ops.size → I listed a w → ∀ i ∈ Region.ready md ops listed, wpOp P ops Q i (I (listed.setIfInBounds i true)) a w)
    (hdone : ∀ listed a w, listed.size = ops.size → I listed a w → Region.ready md ops listed = [] → Q .normal a w) :
    ∀ (fuel : Nat) (listed : Array Bool) (a : Act) (w : World), I listed a w → listed.size = ops.size → (listed.toList.filter (fun b => !b)).length ≤ fuel → wpAny P md ops Q fuel listed a w := by
  intro fuel
  induction fuel with
  | zero =>
    intro listed a w hI hs hf
    have hr : Region.ready md ops listed = [] := by
      cases hr : Region.ready md ops listed with
      | nil => rfl
      | cons i r =>
        have hi := ready_spec (md := md) (ops := ops) (listed := listed) (i := i) (by rw [hr]; simp)
        have := filt_set _ i (not_listed hi.2)
        omega
    exact ⟨hr, hdone listed a w hs hI hr⟩
  | succ fuel ih =>
    intro listed a w hI hs hf
    refine ⟨fun hr => hdone listed a w hs hI hr, fun i hi => ?_⟩
    refine wpOp_mono (fun a w h => ih _ a w h (by simpa using hs) ?_) (hstep listed a w hs hI i hi)
    have := filt_set _ i (not_listed (ready_spec hi).2)
    rw [Array.toList_setIfInBounds]
    omega
/-- where operation i puts what it tells -/
def dstOf (ops : Array Oper) (i : Nat) : Option Tmp := (ops[i]?).bind (·.dst)
/-- an act behind those operations of a list that are done -/
def putL (ops : Array Oper) (listed : Array Bool) (v : Nat → Value) : List Nat → Act → Act
  | [], a => a
  | i :: r, a => putL ops listed v r (if listed.getD i false = true then a.put (dstOf ops i) (v i) else a)
def upd (v : Nat → Value) (i : Nat) (x : Value) : Nat → Value := fun j => if j = i then x else v j
theorem putL_comm {listed : Array Bool} {v : Nat → Value} {d : Option Tmp} {x : Value} : ∀ (l : List Nat) (a : Act), (∀ j ∈ l, ∀ e, dstOf ops j = some e → d ≠ some e) → (putL ops listed v l a).put d x = putL ops listed v l (a.put d x)
  | [], a, _ => rfl
  | j :: r, a, h => by
    unfold putL
    rw [putL_comm r _ (fun k hk => h k (by simp [hk]))]
    split
    · rw [Act.put_comm a (v j) x (h j (by simp))]
    · rfl
theorem getD_set (listed : Array Bool) (i j : Nat) (h : i < listed.size) : (listed.setIfInBounds i true).getD j false = if j = i then true else listed.getD j false := by
  by_cases e : j = i
  · subst e
    simp [Array.getD, h]
  · rw [if_neg e]
    exact getD_set_ne false (fun h => e h.symm)
theorem putL_same {listed : Array Bool} {v : Nat → Value} {i : Nat} {x : Value} (hi : i < listed.size) : ∀ (l : List Nat) (a : Act), i ∉ l → putL ops (listed.setIfInBounds i true) (upd v i x) l a = putL ops listed v l a
  | [], a, _ => rfl
  | j :: r, a, h => by
    have hj : j ≠ i := fun e => h (by simp [e])
    unfold putL
    rw [putL_same hi r _ (fun hm => h (by simp [hm])), getD_set _ _ _ hi, if_neg hj]
    unfold upd
    rw [if_neg hj]
theorem putL_step {listed : Array Bool} {v : Nat → Value} {i : Nat} {x : Value} (hi : i < listed.size) (hno : listed.getD i false = false) : ∀ (l : List Nat) (a : Act), i ∈ l → l.Nodup → (∀ j ∈ l, j ≠ i → ∀ e, dstOf ops j = some e → dstOf ops i ≠ some e) →
    (putL ops listed v l a).put (dstOf ops i) x = putL ops (listed.setIfInBounds i true) (upd v i x) l a
  | [], a, h, _, _ => by simp at h
  | j :: r, a, h, hd, hn => by
    by_cases e : j = i
    · subst e
      have hnr : j ∉ r := (List.nodup_cons.1 hd).1
      unfold putL
      rw [if_neg (by rw [hno]; decide), getD_set _ _ _ hi, if_pos rfl, if_pos rfl, putL_same hi r _ hnr]
      rw [putL_comm r a (fun k hk e he => hn k (by simp [hk]) (fun h => hnr (h ▸ hk)) e he)]
      unfold upd
      rw [if_pos rfl]
    · have hir : i ∈ r := by
        rcases List.mem_cons.1 h with h | h
        · exact absurd h.symm e
        · exact h
      unfold putL
      rw [putL_step hi hno r _ hir (List.nodup_cons.1 hd).2 (fun k hk => hn k (by simp [hk])), getD_set _ _ _ hi, if_neg e]
      unfold upd
      rw [if_neg e]
theorem putL_size {listed : Array Bool} {v : Nat → Value} : ∀ (l : List Nat) (a : Act), (putL ops listed v l a).tmps.size = a.tmps.size
  | [], a => rfl
  | j :: r, a => by
    unfold putL
    rw [putL_size r]
    split
    · cases dstOf ops j <;> simp [Act.put]
    · rfl
theorem putL_other {listed : Array Bool} {v : Nat → Value} {x : Operand} : ∀ (l : List Nat) (a : Act), (∀ j ∈ l, ∀ d, dstOf ops j = some d → x ≠ .tmp d) → (putL ops listed v l a).eval x = a.eval x
  | [], a, _ => rfl
  | j :: r, a, h => by
    unfold putL
    rw [putL_other r _ (fun k hk => h k (by simp [hk]))]
    split
    · exact Act.eval_put (h j (by simp))
    · rfl
theorem eval_put_same {a : Act} {d : Tmp} {x : Value} (h : d < a.tmps.size) : (a.put (some d) x).eval (.tmp d) = x := by
  simp [Act.put, Act.eval, h]
theorem putL_at {listed : Array Bool} {v : Nat → Value} {i : Nat} {d : Tmp} (hdst : dstOf ops i = some d) (hl : listed.getD i false = true) : ∀ (l : List Nat) (a : Act), i ∈ l → l.Nodup → (∀ j ∈ l, j ≠ i → dstOf ops j ≠ some d) → d < a.tmps.size → (putL ops listed v l a).eval (.tmp d) = v i
  | [], a, h, _, _, _ => by simp at h
  | j :: r, a, h, hd, hn, hs => by
    by_cases e : j = i
    · subst e
      have hnr : j ∉ r := (List.nodup_cons.1 hd).1
      unfold putL
      rw [if_pos hl, putL_other r _ (fun k hk d' hd' he => hn k (by simp [hk]) (fun h => hnr (h ▸ hk)) (by rw [hd']; injection he with he; rw [he]))]
      rw [hdst]
      exact eval_put_same hs
    · have hir : i ∈ r := by
        rcases List.mem_cons.1 h with h | h
        · exact absurd h.symm e
        · exact h
      unfold putL
      refine putL_at hdst hl r _ hir (List.nodup_cons.1 hd).2 (fun k hk => hn k (by simp [hk])) ?_
      split
      · cases dstOf ops j <;> simpa [Act.put] using hs
      · exact hs
end
end Go.Proofs.Ytcgafodaohmcmaa
