/-
  A statement whose order is open, by what holds of the operations that are done: with the act that they leave.
-/
import Derived.Test.YtcgafodaohmcmaaRgA
namespace Go.Proofs.Ytcgafodaohmcmaa
open Go.ChangeShapes Go.WideShapes Go.ChangeAt Go.RowKit
set_option linter.unusedVariables false
set_option linter.unusedSimpArgs false
section
variable {P : Program} {ops : Array Oper} {Q : Exit → Act → World → Prop}
theorem region_inv {id : Nat} {a : Act} {w : World} (hm : P.follows .mixedOrders = true)
    (J : Array Bool → (Nat → Value) → World → Prop)
    (h0 : J (Array.replicate ops.size false) (fun _ => undef) w.drew)
    (hd : ∀ i, i < ops.size → ∀ j ∈ List.range ops.size, j ≠ i → ∀ e, dstOf ops j = some e → dstOf ops i ≠ some e)
    (hstep : ∀ (listed : Array Bool) (v : Nat → Value) (w : World), listed.size = ops.size → J listed v w → ∀ i ∈ Region.ready .any ops listed,
      wpOp P ops Q i (fun a' w' => ∃ x, a' = (putL ops listed v (List.range ops.size) a).put (dstOf ops i) x ∧ J (listed.setIfInBounds i true) (upd v i x) w') (putL ops listed v (List.range ops.size) a) w)
    (hdone : ∀ (listed : Array Bool) (v : Nat → Value) (w : World), listed.size = ops.size → J listed v w → Region.ready .any ops listed = [] → Q .normal (putL ops listed v (List.range ops.size) a) w) :
    (Code.region id ops true).wp P Q a w := by
  refine wp_region_any hm ?_
  refine wpAny_inv (fun listed a' w' => ∃ v, a' = putL ops listed v (List.range ops.size) a ∧ J listed v w') ?_ ?_ ops.size _ a _ ?_ (by simp) ?_
  · rintro listed a' w' hs ⟨v, rfl, hJ⟩ i hi
    obtain ⟨hi1, hi2⟩ := ready_spec hi
    refine wpOp_mono ?_ (hstep listed v w' hs hJ i hi)
    rintro a2 w2 ⟨x, rfl, hJ2⟩
    refine ⟨upd v i x, ?_, hJ2⟩
    refine putL_step (by rw [hs]; exact hi1) ?_ _ a (List.mem_range.2 hi1) List.nodup_range (fun j hj hne e he => hd i hi1 j hj hne e he)
    have hlt : i < listed.size := by rw [hs]; exact hi1
    unfold Array.getD at hi2 ⊢
    rw [dif_pos hlt] at hi2 ⊢
    exact hi2
  · rintro listed a' w' hs ⟨v, rfl, hJ⟩ hr
    exact hdone listed v w' hs hJ hr
  · refine ⟨fun _ => undef, ?_, h0⟩
    have : ∀ (l : List Nat), putL ops (Array.replicate ops.size false) (fun _ => undef) l a = a := by
      intro l
      induction l with
      | nil => rfl
      | cons i r ih =>
        unfold putL
        rw [if_neg (by
          unfold Array.getD
          split
          · simp
          · simp)]
        exact ih
    exact (this _).symm
  · simp
/-- an operation that tells a value -/
theorem wpOp_val {i : Nat} {o : Oper} {a : Act} {w w' : World} {x : Value} {K : Act → World → Prop} (hi : ops[i]? = some o) (hg : o.guard = none) (hr : (execOp a.eval o).run P w = .ok (.value x) w') (hK : K (a.put o.dst x) w') : wpOp P ops Q i K a w := by
  unfold wpOp
  simp only [hi]
  rw [if_pos (by simp [Region.wanted, hg])]
  left
  unfold Oper.wp
  rw [hr]
  exact hK
theorem wpOp_skip {i : Nat} {o : Oper} {a : Act} {w w' : World} {K : Act → World → Prop} (hi : ops[i]? = some o) (hg : o.guard = none) (hr : (execOp a.eval o).run P w = .ok .skip w') (hK : K (a.put o.dst undef) w') : wpOp P ops Q i K a w := by
  unfold wpOp
  simp only [hi]
  rw [if_pos (by simp [Region.wanted, hg])]
  left
  unfold Oper.wp
  rw [hr]
  exact hK
theorem wpOp_of {i : Nat} {o : Oper} {a : Act} {w : World} {K : Act → World → Prop} (hi : ops[i]? = some o) (hg : o.guard = none) (h : o.wp P a w K Q) : wpOp P ops Q i K a w := by
  unfold wpOp
  simp only [hi]
  rw [if_pos (by simp [Region.wanted, hg])]
  exact .inl h
theorem wpOp_enter {i : Nat} {o : Oper} {a : Act} {w w' : World} {f : FuncId} {args : Array Value} {K : Act → World → Prop} (hi : ops[i]? = some o) (hg : o.guard = none) (hr : (execOp a.eval o).run P w = .ok (.enter f args) w')
    {R : Ending → World → Prop} (hc : Calls P f args w' R) (hK : ∀ e w2, R e w2 → ∃ v, e = .returned v ∧ K (a.put o.dst v) w2) : wpOp P ops Q i K a w := by
  refine wpOp_of hi hg ?_
  unfold Oper.wp
  rw [hr]
  show Calls P f args w' _
  refine hc.mono fun e w2 h => ?_
  obtain ⟨v, rfl, h2⟩ := hK e w2 h
  exact h2
end
end Go.Proofs.Ytcgafodaohmcmaa
