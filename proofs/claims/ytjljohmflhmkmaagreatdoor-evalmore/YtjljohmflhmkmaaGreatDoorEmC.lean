/-
  EvalMore's open order: how an operand is read behind the operations that are done.
-/
import Derived.Test.YtjljohmflhmkmaaGreatDoorEmB
namespace Go.Proofs.YtjljohmflhmkmaaGreatDoor
open Go.ChangeShapes Go.WideShapes Go.ChangeAt Go.RowKit
set_option linter.unusedVariables false
set_option linter.unusedSimpArgs false
set_option maxRecDepth 100000
set_option maxHeartbeats 2000000
theorem after_of {ops : Array Oper} {listed : Array Bool} {i : Nat} {o : Oper} (hi : i ∈ Region.ready .any ops listed) (ho : ops[i]? = some o) : ∀ e ∈ o.after, Region.binds .any e = true → listed.getD e.on false = true := by
  obtain ⟨_, o', h1, h2⟩ := mem_ready.1 hi
  rw [ho] at h1
  cases h1
  exact h2
theorem not_yet {ops : Array Oper} {listed : Array Bool} {i : Nat} (hs : listed.size = ops.size) (hi : i ∈ Region.ready .any ops listed) : listed.getD i false = false := by
  obtain ⟨h1, h2⟩ := ready_spec hi
  have hlt : i < listed.size := by rw [hs]; exact h1
  unfold Array.getD at h2 ⊢
  rw [dif_pos hlt] at h2 ⊢
  exact h2
theorem toL {listed : Array Bool} {i : Nat} (h : i < listed.size) : (fun j => (listed.setIfInBounds i true).getD j false) = updL (fun j => listed.getD j false) i := by
  funext j
  rw [getD_set _ _ _ h]
  rfl
theorem putL_old {ops : Array Oper} {listed : Array Bool} {v : Nat → Value} {t : Tmp} (l : List Nat) (a : Act) (h : ∀ j ∈ l, dstOf ops j ≠ some t) : (putL ops listed v l a).eval (.tmp t) = a.eval (.tmp t) :=
  putL_other l a (fun j hj d hd he => h j hj (by rw [hd]; injection he with he; rw [he]))
theorem ready_all {ops : Array Oper} {listed : Array Bool} (hs : listed.size = ops.size) (hr : Region.ready .any ops listed = []) {i : Nat} {o : Oper} (ho : ops[i]? = some o) (known : List Nat) (hk : ∀ k ∈ known, listed.getD k false = true) (hd : (o.after.toList.all fun e => !Region.binds .any e || known.contains e.on) = true) : listed.getD i false = true := by
  cases hq : listed.getD i false with
  | true => rfl
  | false =>
    have hlt : i < listed.size := by rw [hs]; exact (Array.getElem?_eq_some_iff.1 ho).1
    have : i ∈ Region.ready .any ops listed := mem_ready.2 ⟨by
      unfold Array.getD at hq ⊢
      rw [dif_pos hlt] at hq ⊢
      exact hq, o, ho, fun e he hb => by
        have h := List.all_eq_true.1 hd e (Array.mem_toList_iff.2 he)
        rw [hb, Bool.not_true, Bool.false_or] at h
        exact hk _ (by simpa using h)⟩
    rw [hr] at this
    cases this
theorem after_one {ops : Array Oper} {listed : Array Bool} {i : Nat} {o : Oper} (hi : i ∈ Region.ready .any ops listed) (ho : ops[i]? = some o) (k : Nat) (hd : (o.after.toList.any fun e => Region.binds .any e && e.on == k) = true) : listed.getD k false = true := by
  obtain ⟨e, he, h⟩ := List.any_eq_true.1 hd
  rw [Bool.and_eq_true, beq_iff_eq] at h
  rw [← h.2]
  exact after_of hi ho e (Array.mem_toList_iff.1 he) h.1
theorem region_inv2 {P : Program} {ops : Array Oper} {Q : Exit → Act → World → Prop} {id : Nat} {a : Act} {w : World} (hm : P.follows .mixedOrders = true)
    (J : Array Bool → (Nat → Value) → World → Prop)
    (h0 : J (Array.replicate ops.size false) (fun _ => undef) w.drew)
    (hd : ∀ i, i < ops.size → ∀ j ∈ List.range ops.size, j ≠ i → ∀ e, dstOf ops j = some e → dstOf ops i ≠ some e)
    (hstep : ∀ (listed : Array Bool) (v : Nat → Value) (w : World) (A : Act), listed.size = ops.size → J listed v w → (∀ i d, dstOf ops i = some d → d < a.tmps.size → listed.getD i false = true → A.eval (.tmp d) = v i) →
      (∀ t, ((List.range ops.size).all fun j => decide (dstOf ops j ≠ some t)) = true → A.eval (.tmp t) = a.eval (.tmp t)) → ∀ i ∈ Region.ready .any ops listed,
      wpOp P ops Q i (fun a' w' => ∃ x, a' = A.put (dstOf ops i) x ∧ J (listed.setIfInBounds i true) (upd v i x) w') A w)
    (hdone : ∀ (listed : Array Bool) (v : Nat → Value) (w : World), listed.size = ops.size → J listed v w → Region.ready .any ops listed = [] → Q .normal (putL ops listed v (List.range ops.size) a) w) :
    (Code.region id ops true).wp P Q a w := by
  refine region_inv hm J h0 hd ?_ hdone
  intro listed v w' hs hJ i hi
  refine hstep listed v w' _ hs hJ ?_ ?_ i hi
  · intro k d hk hda hl
    have hks : k < ops.size := by
      unfold dstOf at hk
      cases hq : ops[k]? with
      | none => rw [hq] at hk; cases hk
      | some o => exact (Array.getElem?_eq_some_iff.1 hq).1
    exact putL_at hk hl _ a (List.mem_range.2 hks) List.nodup_range (fun j hj hne he => hd k hks j hj hne d he hk) hda
  · intro t ht
    refine putL_old _ a (fun j hj => ?_)
    have := List.all_eq_true.1 ht j hj
    simpa using this
end Go.Proofs.YtjljohmflhmkmaaGreatDoor
