/-
  What belongs together: RgA, RgB, TuA.
-/
import Derived.Test.YtmemapfboefngaaCdK
import Derived.Orders
namespace Go.Proofs.Ytmemapfboefngaa
open Go.ChangeShapes Go.WideShapes Go.ChangeAt Go.RowKit
set_option linter.unusedVariables false
set_option linter.unusedSimpArgs false
section
variable {P : Program} {ops : Array Oper} {Q : Exit → Act → World → Prop} {md : Region.Mode}
theorem filt_set : ∀ (l : List Bool) (i : Nat), l[i]? = some false → ((l.set i true).filter (fun b => !b)).length + 1 = (l.filter (fun b => !b)).length
  | [], i, h => by simp at h
  | b :: l, 0, h => by
    simp at h
    subst h
    simp
  | b :: l, i + 1, h => by
    simp only [List.getElem?_cons_succ] at h
    have := filt_set l i h
    cases b
    · simp only [List.set_cons_succ, List.filter_cons, Bool.not_false, if_true, List.length_cons]; omega
    · simp only [List.set_cons_succ, List.filter_cons, Bool.not_true, Bool.false_eq_true, if_false]; exact this
theorem not_listed {listed : Array Bool} {i : Nat} (h : listed.getD i true = false) : listed.toList[i]? = some false := by
  rw [Array.getElem?_toList]
  unfold Array.getD at h
  split at h
  · rename_i hi
    rw [Array.getElem?_eq_getElem hi]
    exact congrArg some h
  · cases h
theorem ready_spec {listed : Array Bool} {i : Nat} (h : i ∈ Region.ready md ops listed) : i < ops.size ∧ listed.getD i true = false := by
  unfold Region.ready at h
  rw [List.mem_filter, List.mem_range, Bool.and_eq_true] at h
  exact ⟨h.1, by simpa using h.2.1⟩
/-- what holds of the operations that are done stays so, operation by operation -/
theorem wpAny_inv (I : Array Bool → Act → World → Prop)
    (hstep : ∀ listed a w, listed.size = ops.size → I listed a w → ∀ i ∈ Region.ready md ops listed, wpOp P ops Q i (I (listed.setIfInBounds i true)) a w)
    (hdone : ∀ listed a w, listed.size = ops.size → I listed a w → Region.ready md ops listed = [] → Q .normal a w) :
    ∀ (fuel : Nat) (listed : Array Bool) (a : Act) (w : World), I listed a w → listed.size = ops.size → (listed.toList.filter (fun b => !b)).length ≤ fuel → wpAny P md ops Q fuel listed a w := by
  intro fuel
  induction fuel with
  | zero =>
    intro listed a w hI hs hf
    have hr : Region.ready md ops listed = [] := by
      cases hr : Region.ready md ops listed with
      | nil => rfl
      | cons i r =>
        have hi := ready_spec (md := md) (ops := ops) (listed := listed) (i := i) (by rw [hr]; simp)
        have := filt_set _ i (not_listed hi.2)
        omega
    exact ⟨hr, hdone listed a w hs hI hr⟩
  | succ fuel ih =>
    intro listed a w hI hs hf
    refine ⟨fun hr => hdone listed a w hs hI hr, fun i hi => ?_⟩
    refine wpOp_mono (fun a w h => ih _ a w h (by simpa using hs) ?_) (hstep listed a w hs hI i hi)
    have := filt_set _ i (not_listed (ready_spec hi).2)
    rw [Array.toList_setIfInBounds]
    omega
/-- where operation i puts what it tells -/
def dstOf (ops : Array Oper) (i : Nat) : Option Tmp := (ops[i]?).bind (·.dst)
/-- an act behind those operations of a list that are done -/
def putL (ops : Array Oper) (listed : Array Bool) (v : Nat → Value) : List Nat → Act → Act
  | [], a => a
  | i :: r, a => putL ops listed v r (if listed.getD i false = true then a.put (dstOf ops i) (v i) else a)
def upd (v : Nat → Value) (i : Nat) (x : Value) : Nat → Value := fun j => if j = i then x else v j
theorem putL_comm {listed : Array Bool} {v : Nat → Value} {d : Option Tmp} {x : Value} : ∀ (l : List Nat) (a : Act), (∀ j ∈ l, ∀ e, dstOf ops j = some e → d ≠ some e) → (putL ops listed v l a).put d x = putL ops listed v l (a.put d x)
  | [], a, _ => rfl
  | j :: r, a, h => by
    unfold putL
    rw [putL_comm r _ (fun k hk => h k (by simp [hk]))]
    split
    · rw [Act.put_comm a (v j) x (h j (by simp))]
    · rfl
theorem getD_set (listed : Array Bool) (i j : Nat) (h : i < listed.size) : (listed.setIfInBounds i true).getD j false = if j = i then true else listed.getD j false := by
  by_cases e : j = i
  · subst e
    simp [Array.getD, h]
  · rw [if_neg e]
    exact getD_set_ne false (fun h => e h.symm)
theorem putL_same {listed : Array Bool} {v : Nat → Value} {i : Nat} {x : Value} (hi : i < listed.size) : ∀ (l : List Nat) (a : Act), i ∉ l → putL ops (listed.setIfInBounds i true) (upd v i x) l a = putL ops listed v l a
  | [], a, _ => rfl
  | j :: r, a, h => by
    have hj : j ≠ i := fun e => h (by simp [e])
    unfold putL
    rw [putL_same hi r _ (fun hm => h (by simp [hm])), getD_set _ _ _ hi, if_neg hj]
    unfold upd
    rw [if_neg hj]
theorem putL_step {listed : Array Bool} {v : Nat → Value} {i : Nat} {x : Value} (hi : i < listed.size) (hno : listed.getD i false = false) : ∀ (l : List Nat) (a : Act), i ∈ l → l.Nodup → (∀ j ∈ l, j ≠ i → ∀ e, dstOf ops j = some e → dstOf ops i ≠ some e) →
    (putL ops listed v l a).put (dstOf ops i) x = putL ops (listed.setIfInBounds i true) (upd v i x) l a
  | [], a, h, _, _ => by simp at h
  | j :: r, a, h, hd, hn => by
    by_cases e : j = i
    · subst e
      have hnr : j ∉ r := (List.nodup_cons.1 hd).1
      unfold putL
      rw [if_neg (by rw [hno]; decide), getD_set _ _ _ hi, if_pos rfl, if_pos rfl, putL_same hi r _ hnr]
      rw [putL_comm r a (fun k hk e he => hn k (by simp [hk]) (fun h => hnr (h ▸ hk)) e he)]
      unfold upd
      rw [if_pos rfl]
    · have hir : i ∈ r := by
        rcases List.mem_cons.1 h with h | h
        · exact absurd h.symm e
        · exact h
      unfold putL
      rw [putL_step hi hno r _ hir (List.nodup_cons.1 hd).2 (fun k hk => hn k (by simp [hk])), getD_set _ _ _ hi, if_neg e]
      unfold upd
      rw [if_neg e]
theorem putL_size {listed : Array Bool} {v : Nat → Value} : ∀ (l : List Nat) (a : Act), (putL ops listed v l a).tmps.size = a.tmps.size
  | [], a => rfl
  | j :: r, a => by
    unfold putL
    rw [putL_size r]
    split
    · cases dstOf ops j <;> simp [Act.put]
    · rfl
theorem putL_other {listed : Array Bool} {v : Nat → Value} {x : Operand} : ∀ (l : List Nat) (a : Act), (∀ j ∈ l, ∀ d, dstOf ops j = some d → x ≠ .tmp d) → (putL ops listed v l a).eval x = a.eval x
  | [], a, _ => rfl
  | j :: r, a, h => by
    unfold putL
    rw [putL_other r _ (fun k hk => h k (by simp [hk]))]
    split
    · exact Act.eval_put (h j (by simp))
    · rfl
theorem eval_put_same {a : Act} {d : Tmp} {x : Value} (h : d < a.tmps.size) : (a.put (some d) x).eval (.tmp d) = x := by
  simp [Act.put, Act.eval, h]
theorem putL_at {listed : Array Bool} {v : Nat → Value} {i : Nat} {d : Tmp} (hdst : dstOf ops i = some d) (hl : listed.getD i false = true) : ∀ (l : List Nat) (a : Act), i ∈ l → l.Nodup → (∀ j ∈ l, j ≠ i → dstOf ops j ≠ some d) → d < a.tmps.size → (putL ops listed v l a).eval (.tmp d) = v i
  | [], a, h, _, _, _ => by simp at h
  | j :: r, a, h, hd, hn, hs => by
    by_cases e : j = i
    · subst e
      have hnr : j ∉ r := (List.nodup_cons.1 hd).1
      unfold putL
      rw [if_pos hl, putL_other r _ (fun k hk d' hd' he => hn k (by simp [hk]) (fun h => hnr (h ▸ hk)) (by rw [hd']; injection he with he; rw [he]))]
      rw [hdst]
      exact eval_put_same hs
    · have hir : i ∈ r := by
        rcases List.mem_cons.1 h with h | h
        · exact absurd h.symm e
        · exact h
      unfold putL
      refine putL_at hdst hl r _ hir (List.nodup_cons.1 hd).2 (fun k hk => hn k (by simp [hk])) ?_
      split
      · cases dstOf ops j <;> simpa [Act.put] using hs
      · exact hs
end
end Go.Proofs.Ytmemapfboefngaa
namespace Go.Proofs.Ytmemapfboefngaa
open Go.ChangeShapes Go.WideShapes Go.ChangeAt Go.RowKit
set_option linter.unusedVariables false
set_option linter.unusedSimpArgs false
section
variable {P : Program} {ops : Array Oper} {Q : Exit → Act → World → Prop}
theorem region_inv {id : Nat} {a : Act} {w : World} (hm : P.follows .mixedOrders = true)
    (J : Array Bool → (Nat → Value) → World → Prop)
    (h0 : J (Array.replicate ops.size false) (fun _ => undef) w.drew)
    (hd : ∀ i, i < ops.size → ∀ j ∈ List.range ops.size, j ≠ i → ∀ e, dstOf ops j = some e → dstOf ops i ≠ some e)
    (hstep : ∀ (listed : Array Bool) (v : Nat → Value) (w : World), listed.size = ops.size → J listed v w → ∀ i ∈ Region.ready .any ops listed,
      wpOp P ops Q i (fun a' w' => ∃ x, a' = (putL ops listed v (List.range ops.size) a).put (dstOf ops i) x ∧ J (listed.setIfInBounds i true) (upd v i x) w') (putL ops listed v (List.range ops.size) a) w)
    (hdone : ∀ (listed : Array Bool) (v : Nat → Value) (w : World), listed.size = ops.size → J listed v w → Region.ready .any ops listed = [] → Q .normal (putL ops listed v (List.range ops.size) a) w) :
    (Code.region id ops true).wp P Q a w := by
  refine wp_region_any hm ?_
  refine wpAny_inv (fun listed a' w' => ∃ v, a' = putL ops listed v (List.range ops.size) a ∧ J listed v w') ?_ ?_ ops.size _ a _ ?_ (by simp) ?_
  · rintro listed a' w' hs ⟨v, rfl, hJ⟩ i hi
    obtain ⟨hi1, hi2⟩ := ready_spec hi
    refine wpOp_mono ?_ (hstep listed v w' hs hJ i hi)
    rintro a2 w2 ⟨x, rfl, hJ2⟩
    refine ⟨upd v i x, ?_, hJ2⟩
    refine putL_step (by rw [hs]; exact hi1) ?_ _ a (List.mem_range.2 hi1) List.nodup_range (fun j hj hne e he => hd i hi1 j hj hne e he)
    have hlt : i < listed.size := by rw [hs]; exact hi1
    unfold Array.getD at hi2 ⊢
    rw [dif_pos hlt] at hi2 ⊢
    exact hi2
  · rintro listed a' w' hs ⟨v, rfl, hJ⟩ hr
    exact hdone listed v w' hs hJ hr
  · refine ⟨fun _ => undef, ?_, h0⟩
    have : ∀ (l : List Nat), putL ops (Array.replicate ops.size false) (fun _ => undef) l a = a := by
      intro l
      induction l with
      | nil => rfl
      | cons i r ih =>
        unfold putL
        rw [if_neg (by
          unfold Array.getD
          split
          · simp
          · simp)]
        exact ih
    exact (this _).symm
  · simp
/-- an operation that tells a value -/
theorem wpOp_val {i : Nat} {o : Oper} {a : Act} {w w' : World} {x : Value} {K : Act → World → Prop} (hi : ops[i]? = some o) (hg : o.guard = none) (hr : (execOp a.eval o).run P w = .ok (.value x) w') (hK : K (a.put o.dst x) w') : wpOp P ops Q i K a w := by
  unfold wpOp
  simp only [hi]
  rw [if_pos (by simp [Region.wanted, hg])]
  left
  unfold Oper.wp
  rw [hr]
  exact hK
theorem wpOp_skip {i : Nat} {o : Oper} {a : Act} {w w' : World} {K : Act → World → Prop} (hi : ops[i]? = some o) (hg : o.guard = none) (hr : (execOp a.eval o).run P w = .ok .skip w') (hK : K (a.put o.dst undef) w') : wpOp P ops Q i K a w := by
  unfold wpOp
  simp only [hi]
  rw [if_pos (by simp [Region.wanted, hg])]
  left
  unfold Oper.wp
  rw [hr]
  exact hK
theorem wpOp_of {i : Nat} {o : Oper} {a : Act} {w : World} {K : Act → World → Prop} (hi : ops[i]? = some o) (hg : o.guard = none) (h : o.wp P a w K Q) : wpOp P ops Q i K a w := by
  unfold wpOp
  simp only [hi]
  rw [if_pos (by simp [Region.wanted, hg])]
  exact .inl h
theorem wpOp_enter {i : Nat} {o : Oper} {a : Act} {w w' : World} {f : FuncId} {args : Array Value} {K : Act → World → Prop} (hi : ops[i]? = some o) (hg : o.guard = none) (hr : (execOp a.eval o).run P w = .ok (.enter f args) w')
    {R : Ending → World → Prop} (hc : Calls P f args w' R) (hK : ∀ e w2, R e w2 → ∃ v, e = .returned v ∧ K (a.put o.dst v) w2) : wpOp P ops Q i K a w := by
  refine wpOp_of hi hg ?_
  unfold Oper.wp
  rw [hr]
  show Calls P f args w' _
  refine hc.mono fun e w2 h => ?_
  obtain ⟨v, rfl, h2⟩ := hK e w2 h
  exact h2
end
end Go.Proofs.Ytmemapfboefngaa
namespace Go.Proofs.Ytmemapfboefngaa
open Go.ChangeShapes Go.WideShapes Go.ChangeAt Go.RowKit
set_option linter.unusedVariables false
set_option linter.unusedSimpArgs false
set_option maxRecDepth 100000
set_option maxHeartbeats 2000000
theorem bf {b : Bool} (h1 : b = true) (h2 : b = false) : False := by rw [h1] at h2; cases h2
theorem bne {b : Bool} (h : b = true → False) : b = false := by cases b; rfl; exact absurd rfl h
def updL (L : Nat → Bool) (i : Nat) : Nat → Bool := fun j => if j = i then true else L j
theorem updL_ne {L : Nat → Bool} {i j : Nat} (h : j ≠ i) : updL L i j = L j := if_neg h
theorem updL_at {L : Nat → Bool} (i : Nat) : updL L i i = true := if_pos rfl
theorem upd_ne {v : Nat → Value} {i j : Nat} {x : Value} (h : j ≠ i) : upd v i x j = v j := if_neg h
theorem upd_at {v : Nat → Value} (i : Nat) (x : Value) : upd v i x i = x := if_pos rfl
theorem after_of {ops : Array Oper} {listed : Array Bool} {i : Nat} {o : Oper} (hi : i ∈ Region.ready .any ops listed) (ho : ops[i]? = some o) : ∀ e ∈ o.after, Region.binds .any e = true → listed.getD e.on false = true := by
  obtain ⟨_, o', h1, h2⟩ := mem_ready.1 hi
  rw [ho] at h1
  cases h1
  exact h2
theorem not_yet {ops : Array Oper} {listed : Array Bool} {i : Nat} (hs : listed.size = ops.size) (hi : i ∈ Region.ready .any ops listed) : listed.getD i false = false := by
  obtain ⟨h1, h2⟩ := ready_spec hi
  have hlt : i < listed.size := by rw [hs]; exact h1
  unfold Array.getD at h2 ⊢
  rw [dif_pos hlt] at h2 ⊢
  exact h2
theorem toL {listed : Array Bool} {i : Nat} (h : i < listed.size) : (fun j => (listed.setIfInBounds i true).getD j false) = updL (fun j => listed.getD j false) i := by
  funext j
  rw [getD_set _ _ _ h]
  rfl
theorem putL_old {ops : Array Oper} {listed : Array Bool} {v : Nat → Value} {t : Tmp} (l : List Nat) (a : Act) (h : ∀ j ∈ l, dstOf ops j ≠ some t) : (putL ops listed v l a).eval (.tmp t) = a.eval (.tmp t) :=
  putL_other l a (fun j hj d hd he => h j hj (by rw [hd]; injection he with he; rw [he]))
theorem putL_defers {ops : Array Oper} {listed : Array Bool} {v : Nat → Value} : ∀ (l : List Nat) (a : Act), (putL ops listed v l a).defers = a.defers
  | [], a => rfl
  | i :: r, a => by
    rw [putL, putL_defers r]
    split
    · cases dstOf ops i <;> rfl
    · rfl
theorem ready_all {ops : Array Oper} {listed : Array Bool} (hs : listed.size = ops.size) (hr : Region.ready .any ops listed = []) {i : Nat} {o : Oper} (ho : ops[i]? = some o) (known : List Nat) (hk : ∀ k ∈ known, listed.getD k false = true) (hd : (o.after.toList.all fun e => !Region.binds .any e || known.contains e.on) = true) : listed.getD i false = true := by
  cases hq : listed.getD i false with
  | true => rfl
  | false =>
    have hlt : i < listed.size := by rw [hs]; exact (Array.getElem?_eq_some_iff.1 ho).1
    have : i ∈ Region.ready .any ops listed := mem_ready.2 ⟨by
      unfold Array.getD at hq ⊢
      rw [dif_pos hlt] at hq ⊢
      exact hq, o, ho, fun e he hb => by
        have h := List.all_eq_true.1 hd e (Array.mem_toList_iff.2 he)
        rw [hb, Bool.not_true, Bool.false_or] at h
        exact hk _ (by simpa using h)⟩
    rw [hr] at this
    cases this
theorem after_one {ops : Array Oper} {listed : Array Bool} {i : Nat} {o : Oper} (hi : i ∈ Region.ready .any ops listed) (ho : ops[i]? = some o) (k : Nat) (hd : (o.after.toList.any fun e => Region.binds .any e && e.on == k) = true) : listed.getD k false = true := by
  obtain ⟨e, he, h⟩ := List.any_eq_true.1 hd
  rw [Bool.and_eq_true, beq_iff_eq] at h
  rw [← h.2]
  exact after_of hi ho e (Array.mem_toList_iff.1 he) h.1
theorem region_inv2 {P : Program} {ops : Array Oper} {Q : Exit → Act → World → Prop} {id : Nat} {a : Act} {w : World} (hm : P.follows .mixedOrders = true)
    (J : Array Bool → (Nat → Value) → World → Prop)
    (h0 : J (Array.replicate ops.size false) (fun _ => undef) w.drew)
    (hd : ∀ i, i < ops.size → ∀ j ∈ List.range ops.size, j ≠ i → ∀ e, dstOf ops j = some e → dstOf ops i ≠ some e)
    (hstep : ∀ (listed : Array Bool) (v : Nat → Value) (w : World) (A : Act), listed.size = ops.size → J listed v w → (∀ i d, dstOf ops i = some d → d < a.tmps.size → listed.getD i false = true → A.eval (.tmp d) = v i) →
      (∀ t, ((List.range ops.size).all fun j => decide (dstOf ops j ≠ some t)) = true → A.eval (.tmp t) = a.eval (.tmp t)) → ∀ i ∈ Region.ready .any ops listed,
      wpOp P ops Q i (fun a' w' => ∃ x, a' = A.put (dstOf ops i) x ∧ J (listed.setIfInBounds i true) (upd v i x) w') A w)
    (hdone : ∀ (listed : Array Bool) (v : Nat → Value) (w : World), listed.size = ops.size → J listed v w → Region.ready .any ops listed = [] → Q .normal (putL ops listed v (List.range ops.size) a) w) :
    (Code.region id ops true).wp P Q a w := by
  refine region_inv hm J h0 hd ?_ hdone
  intro listed v w' hs hJ i hi
  refine hstep listed v w' _ hs hJ ?_ ?_ i hi
  · intro k d hk hda hl
    have hks : k < ops.size := by
      unfold dstOf at hk
      cases hq : ops[k]? with
      | none => rw [hq] at hk; cases hk
      | some o => exact (Array.getElem?_eq_some_iff.1 hq).1
    exact putL_at hk hl _ a (List.mem_range.2 hks) List.nodup_range (fun j hj hne he => hd k hks j hj hne d he hk) hda
  · intro t ht
    refine putL_old _ a (fun j hj => ?_)
    have := List.all_eq_true.1 ht j hj
    simpa using this
theorem all_done {ops : Array Oper} {listed : Array Bool} (hs : listed.size = ops.size) (hr : Region.ready .any ops listed = []) (hwf : ((List.range ops.size).all fun i => match ops[i]? with | none => true | some o => o.after.toList.all fun e => !Region.binds .any e || decide (e.on < i)) = true) : ∀ i, i < ops.size → listed.getD i false = true := by
  intro i
  induction i using Nat.strongRecOn with
  | ind i ih =>
    intro hi
    have h1 := List.all_eq_true.1 hwf i (List.mem_range.2 hi)
    obtain ⟨o, ho⟩ : ∃ o, ops[i]? = some o := ⟨_, Array.getElem?_eq_getElem hi⟩
    rw [ho] at h1
    simp only at h1
    cases hq : listed.getD i false with
    | true => rfl
    | false =>
      have hlt : i < listed.size := by rw [hs]; exact hi
      have : i ∈ Region.ready .any ops listed := mem_ready.2 ⟨by
        unfold Array.getD at hq ⊢
        rw [dif_pos hlt] at hq ⊢
        exact hq, o, ho, fun e he hb => by
          have h3 := List.all_eq_true.1 h1 e (Array.mem_toList_iff.2 he)
          rw [hb, Bool.not_true, Bool.false_or] at h3
          have h2 := of_decide_eq_true h3
          exact ih e.on h2 (Nat.lt_trans h2 hi)⟩
      rw [hr] at this
      cases this

section
variable {P : Program} {ops : Array Oper} {Q : Exit → Act → World → Prop} {i : Nat} {A : Act} {w : World} {K : Act → World → Prop} {d : Option Tmp} {ty : TypeId} {pos : String} {aft : Array Edge}
theorem wpOp_move {x : Operand} {y : Value} (hi : ops[i]? = some { dst := d, op := .move x, type := ty, pos := pos, after := aft, guard := none }) (he : A.eval x = y) (hK : K (A.put d y) w) : wpOp P ops Q i K A w :=
  wpOp_val hi rfl (x := y) (w' := w) (by rw [← he]; simp [execOp]) hK
theorem wpOp_assign {x : Operand} {y : Value} (hi : ops[i]? = some { dst := d, op := .assign x, type := ty, pos := pos, after := aft, guard := none }) (he : A.eval x = y) (hK : K (A.put d y) w) : wpOp P ops Q i K A w :=
  wpOp_val hi rfl (x := y) (w' := w) (by rw [← he]; simp [execOp]) hK
theorem wpOp_extract {x : Operand} {k : Nat} {vs : Array Value} {y : Value} (hi : ops[i]? = some { dst := d, op := .extract x k, type := ty, pos := pos, after := aft, guard := none }) (he : A.eval x = .tuple vs) (hk : vs[k]? = some y) (hK : K (A.put d y) w) : wpOp P ops Q i K A w :=
  wpOp_val hi rfl (x := y) (w' := w) (by simp only [execOp, he]; simp [Instr.extract, hk]) hK
theorem wpOp_op {op' : Op} {y : Value} (hi : ops[i]? = some { dst := d, op := op', type := ty, pos := pos, after := aft, guard := none }) (hr : (execOp A.eval { dst := d, op := op', type := ty, pos := pos, after := aft, guard := none }).run P w = .ok (.value y) w) (hK : K (A.put d y) w) : wpOp P ops Q i K A w :=
  wpOp_val hi rfl (x := y) (w' := w) hr hK
theorem wpOp_load {t : TypeId} {x : Operand} {y : Value} {w' : World} (hi : ops[i]? = some { dst := d, op := .load t x, type := ty, pos := pos, after := aft, guard := none }) (hr : (Instr.loadAt t (A.eval x)).run P w = .ok y w') (hK : K (A.put d y) w') : wpOp P ops Q i K A w :=
  wpOp_val hi rfl (x := y) (w' := w') (by simp [execOp, hr]) hK
theorem wpOp_slice {t : TypeId} {n : Nat} {ps : Array (Nat × Operand)} {y : Value} {w' : World} (hi : ops[i]? = some { dst := d, op := .buildSlice t n ps, type := ty, pos := pos, after := aft, guard := none }) (hr : (Instr.buildSlice t n (ps.map fun (i, x) => (i, A.eval x))).run P w = .ok y w') (hK : K (A.put d y) w') : wpOp P ops Q i K A w :=
  wpOp_val hi rfl (x := y) (w' := w') (by simp [execOp, hr]) hK
theorem wpOp_alloc {t : TypeId} {y : Value} {w' : World} (hi : ops[i]? = some { dst := d, op := .alloc t, type := ty, pos := pos, after := aft, guard := none }) (hr : (Instr.alloc t true (.tuple #[])).run P w = .ok y w') (hK : K (A.put d y) w') : wpOp P ops Q i K A w :=
  wpOp_val hi rfl (x := y) (w' := w') (by simp [execOp, hr]) hK
theorem wpOp_store {t : TypeId} {p x : Operand} {w' : World} (hi : ops[i]? = some { dst := d, op := .store t p x, type := ty, pos := pos, after := aft, guard := none }) (hr : (Instr.storeAt t (A.eval p) (A.eval x)).run P w = .ok () w') (hK : K (A.put d undef) w') : wpOp P ops Q i K A w :=
  wpOp_skip hi rfl (w' := w') (by simp [execOp, hr]) hK
theorem wpOp_call {f : FuncId} {xs : Array Operand} {ts : Array TypeId} {args : Array Value} {R : Ending → World → Prop} (hi : ops[i]? = some { dst := d, op := .call { callee := .value (.func f), args := xs, argTypes := ts }, type := ty, pos := pos, after := aft, guard := none }) (ha : xs.map A.eval = args) (hf : (callFunc f args).run P w = .ok (.enter f args) w) (hc : Calls P f args w R) (hK : ∀ e w2, R e w2 → ∃ v, e = .returned v ∧ K (A.put d v) w2) : wpOp P ops Q i K A w :=
  wpOp_enter hi rfl (w' := w) (f := f) (args := args) (by subst ha; simp [execOp, resolve, invoke, Act.eval, Deferred.ofValue, hf]) hc hK
end
/-- join's stages: before the pair of leaves is made, made, one leaf, that leaf in a row, put in, stored -/
structure TJ (W : World) (K : Nat → Value) (S1 S2 S3 S4 : World → Value → Prop) (S5 : World → Prop) (L : Nat → Bool) (v : Nat → Value) (w : World) : Prop where
  fr : L 29 = false → Fr W w
  m : ∀ i, i < 26 ∨ (29 < i ∧ i < 33) → L i = true → v i = K i
  s1 : L 26 = true → L 27 = false → S1 w (v 26)
  s2 : L 27 = true → L 28 = false → S2 w (v 27)
  s3 : L 28 = true → L 29 = false → S3 w (v 28)
  s4 : L 29 = true → L 33 = false → S4 w (v 29)
  s5 : L 33 = true → S5 w
  o27 : L 27 = true → L 26 = true
  o28 : L 28 = true → L 27 = true
  o29 : L 29 = true → L 28 = true
  o33 : L 33 = true → L 29 = true
  o26 : L 26 = true → L 16 = true ∧ L 25 = true
  p29 : L 29 = true → L 5 = true
  c : ∀ k l, (k, l) ∈ [(15, 13), (16, 15), (24, 21), (25, 24)] → L k = true → L l = true
section
variable {W : World} {K : Nat → Value} {S1 S2 S3 S4 : World → Value → Prop} {S5 : World → Prop} {L : Nat → Bool} {v : Nat → Value} {w : World}
theorem TJ.h33 (J : TJ W K S1 S2 S3 S4 S5 L v w) (h : L 29 = false) : L 33 = false := bne fun h7 => bf (J.o33 h7) h
theorem TJ.h29 (J : TJ W K S1 S2 S3 S4 S5 L v w) (h : L 28 = false) : L 29 = false := bne fun h7 => bf (J.o29 h7) h
theorem TJ.h28 (J : TJ W K S1 S2 S3 S4 S5 L v w) (h : L 27 = false) : L 28 = false := bne fun h7 => bf (J.o28 h7) h
theorem TJ.h27 (J : TJ W K S1 S2 S3 S4 S5 L v w) (h : L 26 = false) : L 27 = false := bne fun h7 => bf (J.o27 h7) h
theorem TJ.n16 (J : TJ W K S1 S2 S3 S4 S5 L v w) (h : L 16 = false) : L 26 = false := bne fun h7 => bf (J.o26 h7).1 h
theorem TJ.n25 (J : TJ W K S1 S2 S3 S4 S5 L v w) (h : L 25 = false) : L 26 = false := bne fun h7 => bf (J.o26 h7).2 h
theorem TJ.n13 (J : TJ W K S1 S2 S3 S4 S5 L v w) (h : L 13 = false) : L 26 = false := J.n16 (bne fun h7 => bf (J.c 15 13 (by simp) (J.c 16 15 (by simp) h7)) h)
theorem TJ.n21 (J : TJ W K S1 S2 S3 S4 S5 L v w) (h : L 21 = false) : L 26 = false := J.n25 (bne fun h7 => bf (J.c 24 21 (by simp) (J.c 25 24 (by simp) h7)) h)
theorem TJ.cU (J : TJ W K S1 S2 S3 S4 S5 L v w) (i : Nat) (hd : ∀ k l, (k, l) ∈ [(15, 13), (16, 15), (24, 21), (25, 24)] → i = k → L l = true) : ∀ k l, (k, l) ∈ [(15, 13), (16, 15), (24, 21), (25, 24)] → updL L i k = true → updL L i l = true := fun k l h hk => by
  have up : ∀ j, L j = true → updL L i j = true := fun j h => by
    unfold updL
    split
    · rfl
    · exact h
  by_cases e : k = i
  · exact up l (hd k l h e.symm)
  · rw [updL_ne e] at hk
    exact up l (J.c k l h hk)
theorem TJ.cV (J : TJ W K S1 S2 S3 S4 S5 L v w) (i : Nat) (hi : 25 < i) : ∀ k l, (k, l) ∈ [(15, 13), (16, 15), (24, 21), (25, 24)] → updL L i k = true → updL L i l = true :=
  J.cU i fun k l h e => by
    subst e
    simp at h
    omega
theorem TJ.stK (J : TJ W K S1 S2 S3 S4 S5 L v w) (i : Nat) (hi : i < 26 ∨ (29 < i ∧ i < 33)) {x : Value} (hx : x = K i) (hd : ∀ k l, (k, l) ∈ [(15, 13), (16, 15), (24, 21), (25, 24)] → i = k → L l = true) : TJ W K S1 S2 S3 S4 S5 (updL L i) (upd v i x) w := by
  have n26 : (26 : Nat) ≠ i := by omega
  have n27 : (27 : Nat) ≠ i := by omega
  have n28 : (28 : Nat) ≠ i := by omega
  have n29 : (29 : Nat) ≠ i := by omega
  have n33 : (33 : Nat) ≠ i := by omega
  have up : ∀ j, L j = true → updL L i j = true := fun j h => by
    unfold updL
    split
    · rfl
    · exact h
  refine ⟨?_, ?_, ?_, ?_, ?_, ?_, ?_, ?_, ?_, ?_, ?_, ?_, ?_, J.cU i hd⟩
  · rw [updL_ne n29]; exact J.fr
  · intro j hj hl
    by_cases e : j = i
    · subst e; rw [upd_at, hx]
    · rw [upd_ne e]; rw [updL_ne e] at hl; exact J.m j hj hl
  · rw [updL_ne n26, updL_ne n27, upd_ne n26]; exact J.s1
  · rw [updL_ne n27, updL_ne n28, upd_ne n27]; exact J.s2
  · rw [updL_ne n28, updL_ne n29, upd_ne n28]; exact J.s3
  · rw [updL_ne n29, updL_ne n33, upd_ne n29]; exact J.s4
  · rw [updL_ne n33]; exact J.s5
  · rw [updL_ne n27, updL_ne n26]; exact J.o27
  · rw [updL_ne n28, updL_ne n27]; exact J.o28
  · rw [updL_ne n29, updL_ne n28]; exact J.o29
  · rw [updL_ne n33, updL_ne n29]; exact J.o33
  · rw [updL_ne n26]; exact fun h => ⟨up _ (J.o26 h).1, up _ (J.o26 h).2⟩
  · rw [updL_ne n29]; exact fun h => up _ (J.p29 h)
theorem TJ.st26 (J : TJ W K S1 S2 S3 S4 S5 L v w) (h : L 26 = false) (hb : L 16 = true ∧ L 25 = true) {x : Value} {w' : World} (f : Fr W w') (hx : S1 w' x) : TJ W K S1 S2 S3 S4 S5 (updL L 26) (upd v 26 x) w' := by
  have h7 := J.h27 h
  have h8 := J.h28 h7
  have h9 := J.h29 h8
  have h3 := J.h33 h9
  exact ⟨fun _ => f, fun i hi hl => by rw [upd_ne (by omega)]; rw [updL_ne (by omega)] at hl; exact J.m i hi hl, fun _ _ => hx, fun h => (bf h h7).elim, fun h => (bf h h8).elim, fun h => (bf h h9).elim, fun h => (bf h h3).elim, fun _ => rfl, fun h => (bf h h8).elim, fun h => (bf h h9).elim, fun h => (bf h h3).elim, fun _ => hb, J.p29, J.cV 26 (by decide)⟩
theorem TJ.st27 (J : TJ W K S1 S2 S3 S4 S5 L v w) (hp : L 26 = true) (h7 : L 27 = false) {x : Value} {w' : World} (f : Fr W w') (hx : S2 w' x) : TJ W K S1 S2 S3 S4 S5 (updL L 27) (upd v 27 x) w' := by
  have h8 := J.h28 h7
  have h9 := J.h29 h8
  have h3 := J.h33 h9
  exact ⟨fun _ => f, fun i hi hl => by rw [upd_ne (by omega)]; rw [updL_ne (by omega)] at hl; exact J.m i hi hl, fun _ h => (by cases h), fun _ _ => hx, fun h => (bf h h8).elim, fun h => (bf h h9).elim, fun h => (bf h h3).elim, fun _ => hp, fun h => (bf h h8).elim, fun h => (bf h h9).elim, fun h => (bf h h3).elim, J.o26, J.p29, J.cV 27 (by decide)⟩
theorem TJ.st28 (J : TJ W K S1 S2 S3 S4 S5 L v w) (hp : L 27 = true) (h8 : L 28 = false) {x : Value} {w' : World} (f : Fr W w') (hx : S3 w' x) : TJ W K S1 S2 S3 S4 S5 (updL L 28) (upd v 28 x) w' := by
  have h9 := J.h29 h8
  have h3 := J.h33 h9
  exact ⟨fun _ => f, fun i hi hl => by rw [upd_ne (by omega)]; rw [updL_ne (by omega)] at hl; exact J.m i hi hl, fun _ h => (bf hp h).elim, fun _ h => (by cases h), fun _ _ => hx, fun h => (bf h h9).elim, fun h => (bf h h3).elim, J.o27, fun _ => hp, fun h => (bf h h9).elim, fun h => (bf h h3).elim, J.o26, J.p29, J.cV 28 (by decide)⟩
theorem TJ.st29 (J : TJ W K S1 S2 S3 S4 S5 L v w) (h5 : L 5 = true) (hp : L 28 = true) (h9 : L 29 = false) {x : Value} {w' : World} (hx : S4 w' x) : TJ W K S1 S2 S3 S4 S5 (updL L 29) (upd v 29 x) w' := by
  have h3 := J.h33 h9
  exact ⟨fun h => (by cases h), fun i hi hl => by rw [upd_ne (by omega)]; rw [updL_ne (by omega)] at hl; exact J.m i hi hl, fun _ h => (bf (J.o28 hp) h).elim, fun _ h => (bf hp h).elim, fun _ h => (by cases h), fun _ _ => hx, fun h => (bf h h3).elim, J.o27, J.o28, fun _ => hp, fun h => (bf h h3).elim, J.o26, fun _ => h5, J.cV 29 (by decide)⟩
theorem TJ.st33 (J : TJ W K S1 S2 S3 S4 S5 L v w) (hp : L 29 = true) (h3 : L 33 = false) {x : Value} {w' : World} (hx : S5 w') : TJ W K S1 S2 S3 S4 S5 (updL L 33) (upd v 33 x) w' :=
  ⟨fun h => (bf hp h).elim, fun i hi hl => by rw [upd_ne (by omega)]; rw [updL_ne (by omega)] at hl; exact J.m i hi hl, fun _ h => (bf (J.o28 (J.o29 hp)) h).elim, fun _ h => (bf (J.o29 hp) h).elim, fun _ h => (bf hp h).elim, fun _ h => (by cases h), fun _ => hx, J.o27, J.o28, J.o29, fun _ => hp, J.o26, J.p29, J.cV 33 (by decide)⟩
end
end Go.Proofs.Ytmemapfboefngaa
