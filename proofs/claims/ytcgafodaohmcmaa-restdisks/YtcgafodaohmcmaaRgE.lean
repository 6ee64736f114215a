/-
  A statement whose order is open and whose operations tell one thing each, but for where new memory lies: what holds of those that are done.
-/
import Derived.Test.YtcgafodaohmcmaaRgB
namespace Go.Proofs.Ytcgafodaohmcmaa
open Go.ChangeShapes Go.WideShapes Go.ChangeAt Go.RowKit
set_option linter.unusedVariables false
set_option linter.unusedSimpArgs false
set_option maxRecDepth 100000
set_option maxHeartbeats 2000000
theorem bf {b : Bool} (h1 : b = true) (h2 : b = false) : False := by rw [h1] at h2; cases h2
theorem bne {b : Bool} (h : b = true → False) : b = false := by cases b; rfl; exact absurd rfl h
def updL (L : Nat → Bool) (i : Nat) : Nat → Bool := fun j => if j = i then true else L j
def updG (G : Nat → Nat) (i x : Nat) : Nat → Nat := fun j => if j = i then x else G j
theorem after_of {ops : Array Oper} {listed : Array Bool} {i : Nat} {o : Oper} (hi : i ∈ Region.ready .any ops listed) (ho : ops[i]? = some o) : ∀ e ∈ o.after, Region.binds .any e = true → listed.getD e.on false = true := by
  obtain ⟨_, o', h1, h2⟩ := mem_ready.1 hi
  rw [ho] at h1
  cases h1
  exact h2
theorem not_yet {ops : Array Oper} {listed : Array Bool} {i : Nat} (hs : listed.size = ops.size) (hi : i ∈ Region.ready .any ops listed) : listed.getD i false = false := by
  obtain ⟨h1, h2⟩ := ready_spec hi
  have hlt : i < listed.size := by rw [hs]; exact h1
  unfold Array.getD at h2 ⊢
  rw [dif_pos hlt] at h2 ⊢
  exact h2
theorem toL {listed : Array Bool} {i : Nat} (h : i < listed.size) : (fun j => (listed.setIfInBounds i true).getD j false) = updL (fun j => listed.getD j false) i := by
  funext j
  rw [getD_set _ _ _ h]
  rfl
theorem putL_old {ops : Array Oper} {listed : Array Bool} {v : Nat → Value} {t : Tmp} (l : List Nat) (a : Act) (h : ∀ j ∈ l, dstOf ops j ≠ some t) : (putL ops listed v l a).eval (.tmp t) = a.eval (.tmp t) :=
  putL_other l a (fun j hj d hd he => h j hj (by rw [hd]; injection he with he; rw [he]))
theorem ready_all {ops : Array Oper} {listed : Array Bool} (hs : listed.size = ops.size) (hr : Region.ready .any ops listed = []) {i : Nat} {o : Oper} (ho : ops[i]? = some o) (known : List Nat) (hk : ∀ k ∈ known, listed.getD k false = true) (hd : (o.after.toList.all fun e => !Region.binds .any e || known.contains e.on) = true) : listed.getD i false = true := by
  cases hq : listed.getD i false with
  | true => rfl
  | false =>
    have hlt : i < listed.size := by rw [hs]; exact (Array.getElem?_eq_some_iff.1 ho).1
    have : i ∈ Region.ready .any ops listed := mem_ready.2 ⟨by
      unfold Array.getD at hq ⊢
      rw [dif_pos hlt] at hq ⊢
      exact hq, o, ho, fun e he hb => by
        have h := List.all_eq_true.1 hd e (Array.mem_toList_iff.2 he)
        rw [hb, Bool.not_true, Bool.false_or] at h
        exact hk _ (by simpa using h)⟩
    rw [hr] at this
    cases this
theorem after_one {ops : Array Oper} {listed : Array Bool} {i : Nat} {o : Oper} (hi : i ∈ Region.ready .any ops listed) (ho : ops[i]? = some o) (k : Nat) (hd : (o.after.toList.any fun e => Region.binds .any e && e.on == k) = true) : listed.getD k false = true := by
  obtain ⟨e, he, h⟩ := List.any_eq_true.1 hd
  rw [Bool.and_eq_true, beq_iff_eq] at h
  rw [← h.2]
  exact after_of hi ho e (Array.mem_toList_iff.1 he) h.1
theorem region_inv2 {P : Program} {ops : Array Oper} {Q : Exit → Act → World → Prop} {id : Nat} {a : Act} {w : World} (hm : P.follows .mixedOrders = true)
    (J : Array Bool → (Nat → Value) → World → Prop)
    (h0 : J (Array.replicate ops.size false) (fun _ => undef) w.drew)
    (hd : ∀ i, i < ops.size → ∀ j ∈ List.range ops.size, j ≠ i → ∀ e, dstOf ops j = some e → dstOf ops i ≠ some e)
    (hstep : ∀ (listed : Array Bool) (v : Nat → Value) (w : World) (A : Act), listed.size = ops.size → J listed v w → (∀ i d, dstOf ops i = some d → d < a.tmps.size → listed.getD i false = true → A.eval (.tmp d) = v i) →
      (∀ t, ((List.range ops.size).all fun j => decide (dstOf ops j ≠ some t)) = true → A.eval (.tmp t) = a.eval (.tmp t)) → ∀ i ∈ Region.ready .any ops listed,
      wpOp P ops Q i (fun a' w' => ∃ x, a' = A.put (dstOf ops i) x ∧ J (listed.setIfInBounds i true) (upd v i x) w') A w)
    (hdone : ∀ (listed : Array Bool) (v : Nat → Value) (w : World), listed.size = ops.size → J listed v w → Region.ready .any ops listed = [] → Q .normal (putL ops listed v (List.range ops.size) a) w) :
    (Code.region id ops true).wp P Q a w := by
  refine region_inv hm J h0 hd ?_ hdone
  intro listed v w' hs hJ i hi
  refine hstep listed v w' _ hs hJ ?_ ?_ i hi
  · intro k d hk hda hl
    have hks : k < ops.size := by
      unfold dstOf at hk
      cases hq : ops[k]? with
      | none => rw [hq] at hk; cases hk
      | some o => exact (Array.getElem?_eq_some_iff.1 hq).1
    exact putL_at hk hl _ a (List.mem_range.2 hks) List.nodup_range (fun j hj hne he => hd k hks j hj hne d he hk) hda
  · intro t ht
    refine putL_old _ a (fun j hj => ?_)
    have := List.all_eq_true.1 ht j hj
    simpa using this
section
variable {P : Program} {ops : Array Oper} {Q : Exit → Act → World → Prop} {i : Nat} {A : Act} {w : World} {K : Act → World → Prop} {d : Option Tmp} {ty : TypeId} {pos : String} {aft : Array Edge}
theorem wpOp_move {x : Operand} {y : Value} (hi : ops[i]? = some { dst := d, op := .move x, type := ty, pos := pos, after := aft, guard := none }) (he : A.eval x = y) (hK : K (A.put d y) w) : wpOp P ops Q i K A w :=
  wpOp_val hi rfl (x := y) (w' := w) (by rw [← he]; simp [execOp]) hK
theorem wpOp_assign {x : Operand} {y : Value} (hi : ops[i]? = some { dst := d, op := .assign x, type := ty, pos := pos, after := aft, guard := none }) (he : A.eval x = y) (hK : K (A.put d y) w) : wpOp P ops Q i K A w :=
  wpOp_val hi rfl (x := y) (w' := w) (by rw [← he]; simp [execOp]) hK
theorem wpOp_extract {x : Operand} {k : Nat} {vs : Array Value} {y : Value} (hi : ops[i]? = some { dst := d, op := .extract x k, type := ty, pos := pos, after := aft, guard := none }) (he : A.eval x = .tuple vs) (hk : vs[k]? = some y) (hK : K (A.put d y) w) : wpOp P ops Q i K A w :=
  wpOp_val hi rfl (x := y) (w' := w) (by simp only [execOp, he]; simp [Instr.extract, hk]) hK
theorem wpOp_load {t : TypeId} {x : Operand} {y : Value} {w' : World} (hi : ops[i]? = some { dst := d, op := .load t x, type := ty, pos := pos, after := aft, guard := none }) (hr : (Instr.loadAt t (A.eval x)).run P w = .ok y w') (hK : K (A.put d y) w') : wpOp P ops Q i K A w :=
  wpOp_val hi rfl (x := y) (w' := w') (by simp [execOp, hr]) hK
theorem wpOp_slice {t : TypeId} {n : Nat} {ps : Array (Nat × Operand)} {y : Value} {w' : World} (hi : ops[i]? = some { dst := d, op := .buildSlice t n ps, type := ty, pos := pos, after := aft, guard := none }) (hr : (Instr.buildSlice t n (ps.map fun (i, x) => (i, A.eval x))).run P w = .ok y w') (hK : K (A.put d y) w') : wpOp P ops Q i K A w :=
  wpOp_val hi rfl (x := y) (w' := w') (by simp [execOp, hr]) hK
theorem wpOp_alloc {t : TypeId} {y : Value} {w' : World} (hi : ops[i]? = some { dst := d, op := .alloc t, type := ty, pos := pos, after := aft, guard := none }) (hr : (Instr.alloc t true (.tuple #[])).run P w = .ok y w') (hK : K (A.put d y) w') : wpOp P ops Q i K A w :=
  wpOp_val hi rfl (x := y) (w' := w') (by simp [execOp, hr]) hK
theorem wpOp_store {t : TypeId} {p x : Operand} {w' : World} (hi : ops[i]? = some { dst := d, op := .store t p x, type := ty, pos := pos, after := aft, guard := none }) (hr : (Instr.storeAt t (A.eval p) (A.eval x)).run P w = .ok () w') (hK : K (A.put d undef) w') : wpOp P ops Q i K A w :=
  wpOp_skip hi rfl (w' := w') (by simp [execOp, hr]) hK
theorem wpOp_call {f : FuncId} {xs : Array Operand} {ts : Array TypeId} {args : Array Value} {R : Ending → World → Prop} (hi : ops[i]? = some { dst := d, op := .call { callee := .value (.func f), args := xs, argTypes := ts }, type := ty, pos := pos, after := aft, guard := none }) (ha : xs.map A.eval = args) (hf : (callFunc f args).run P w = .ok (.enter f args) w) (hc : Calls P f args w R) (hK : ∀ e w2, R e w2 → ∃ v, e = .returned v ∧ K (A.put d v) w2) : wpOp P ops Q i K A w :=
  wpOp_enter hi rfl (w' := w) (f := f) (args := args) (by subst ha; simp [execOp, resolve, invoke, Act.eval, Deferred.ofValue, hf]) hc hK
end

/-- an operation that tells what S tells -/
theorem wpOp_is {P : Program} {ops : Array Oper} {Q : Exit → Act → World → Prop} {i : Nat} {o : Oper} {A : Act} {w w' : World} {y : Value} {K : Act → World → Prop} (S : Sem Value) (hi : ops[i]? = some o) (hg : o.guard = none) (he : execOp A.eval o = (do pure (.value (← S)))) (hr : S.run P w = .ok y w') (hK : K (A.put o.dst y) w') : wpOp P ops Q i K A w :=
  wpOp_val hi hg (x := y) (w' := w') (by rw [he]; simp [hr]) hK
theorem wpOp_gis {P : Program} {ops : Array Oper} {Q : Exit → Act → World → Prop} {i : Nat} {o : Oper} {A : Act} {w w' : World} {y : Value} {K : Act → World → Prop} (S : Sem Value) (hi : ops[i]? = some o) (hw : Region.wanted o (yielded ops A.tmps) = true) (he : execOp A.eval o = (do pure (.value (← S)))) (hr : S.run P w = .ok y w') (hK : K (A.put o.dst y) w') : wpOp P ops Q i K A w := by
  unfold wpOp
  simp only [hi]
  rw [if_pos hw]
  left
  unfold Oper.wp
  rw [show (execOp A.eval o).run P w = .ok (.value y) w' by rw [he]; simp [hr]]
  exact hK
theorem exec_len {A : Act} {d : Option Tmp} {ty t : TypeId} {pos : String} {aft : Array Edge} {gd : Option (Nat × Bool)} {P : Program} {w : World} {x : Operand} {a : Option Addr} {n c : Nat} {e : TypeId} (ht : P.underlying t = some (.slice e)) (he : A.eval x = .slice a n c) :
    (execOp A.eval { dst := d, op := .call { callee := .builtin .len, args := #[x], argTypes := #[t] }, type := ty, pos := pos, after := aft, guard := gd }).run P w = .ok (.value (.int .i64 n)) w := by
  simp only [execOp, resolve, invoke, builtin, Sem.run_bind, Sem.run_pure, Result.andThen_ok, List.map_toArray, List.map_cons, List.map_nil, he]
  simp [Builtin.len_, run_underlying ht, goInt]
/-- an operation whose guard holds -/
theorem wanted_of {ops : Array Oper} {A : Act} {o : Oper} {k : Nat} {b : Bool} {d : Tmp} (hg : o.guard = some (k, b)) (hd : dstOf ops k = some d) (he : A.eval (.tmp d) = .bool b) : Region.wanted o (yielded ops A.tmps) = true := by
  have h1 : A.tmps[d]? = some (.bool b) := by
    unfold Act.eval at he
    simp only [Array.getD_eq_getD_getElem?] at he
    cases hq : A.tmps[d]? with
    | none => rw [hq] at he; cases he
    | some x => rw [hq] at he; simpa using he
  have h2 : yielded ops A.tmps k = some b := by
    unfold yielded
    unfold dstOf at hd
    rw [hd]
    simp only [Option.bind_some, h1]
  simp [Region.wanted, hg, h2]
theorem wpOp_g {P : Program} {ops : Array Oper} {Q : Exit → Act → World → Prop} {i : Nat} {o : Oper} {a : Act} {w : World} {K : Act → World → Prop} (hi : ops[i]? = some o) (hw : Region.wanted o (yielded ops a.tmps) = true) (h : o.wp P a w K Q) : wpOp P ops Q i K a w := by
  unfold wpOp
  simp only [hi]
  rw [if_pos hw]
  exact .inl h
theorem wpOp_gval {P : Program} {ops : Array Oper} {Q : Exit → Act → World → Prop} {i : Nat} {o : Oper} {a : Act} {w w' : World} {x : Value} {K : Act → World → Prop} (hi : ops[i]? = some o) (hw : Region.wanted o (yielded ops a.tmps) = true) (hr : (execOp a.eval o).run P w = .ok (.value x) w') (hK : K (a.put o.dst x) w') : wpOp P ops Q i K a w := by
  refine wpOp_g hi hw ?_
  unfold Oper.wp
  rw [hr]
  exact hK
theorem wpOp_genter {P : Program} {ops : Array Oper} {Q : Exit → Act → World → Prop} {i : Nat} {o : Oper} {a : Act} {w w' : World} {f : FuncId} {args : Array Value} {K : Act → World → Prop} (hi : ops[i]? = some o) (hw : Region.wanted o (yielded ops a.tmps) = true) (hr : (execOp a.eval o).run P w = .ok (.enter f args) w')
    {R : Ending → World → Prop} (hc : Calls P f args w' R) (hK : ∀ e w2, R e w2 → ∃ v, e = .returned v ∧ K (a.put o.dst v) w2) : wpOp P ops Q i K a w := by
  refine wpOp_g hi hw ?_
  unfold Oper.wp
  rw [hr]
  show Calls P f args w' _
  refine hc.mono fun e w2 h => ?_
  obtain ⟨v, rfl, h2⟩ := hK e w2 h
  exact h2
theorem wanted_none {ops : Array Oper} {A : Act} {o : Oper} (hg : o.guard = none) : Region.wanted o (yielded ops A.tmps) = true := by simp [Region.wanted, hg]
theorem exec_pick {A : Act} {d : Option Tmp} {ty : TypeId} {pos : String} {aft : Array Edge} {gd : Option (Nat × Bool)} {P : Program} {w : World} {c a b : Operand} {y : Value} (hc : A.eval c = .bool true) (ha : A.eval a = y) :
    (execOp A.eval { dst := d, op := .pick c a b, type := ty, pos := pos, after := aft, guard := gd }).run P w = .ok (.value y) w := by
  simp only [execOp, hc, ha]
  rfl
theorem wpOp_gcall {P : Program} {ops : Array Oper} {Q : Exit → Act → World → Prop} {i : Nat} {A : Act} {w : World} {K : Act → World → Prop} {d : Option Tmp} {ty : TypeId} {pos : String} {aft : Array Edge} {gd : Option (Nat × Bool)} {f : FuncId} {xs : Array Operand} {ts : Array TypeId} {args : Array Value} {R : Ending → World → Prop} (hi : ops[i]? = some { dst := d, op := .call { callee := .value (.func f), args := xs, argTypes := ts }, type := ty, pos := pos, after := aft, guard := gd })
    (hw : Region.wanted { dst := d, op := .call { callee := .value (.func f), args := xs, argTypes := ts }, type := ty, pos := pos, after := aft, guard := gd } (yielded ops A.tmps) = true) (ha : xs.map A.eval = args) (hf : (callFunc f args).run P w = .ok (.enter f args) w) (hc : Calls P f args w R) (hK : ∀ e w2, R e w2 → ∃ v, e = .returned v ∧ K (A.put d v) w2) : wpOp P ops Q i K A w :=
  wpOp_genter hi hw (w' := w) (f := f) (args := args) (by subst ha; simp [execOp, resolve, invoke, Act.eval, Deferred.ofValue, hf]) hc hK
/-- what holds of the operations that are done: each has told its value (val), new blocks (of the operations in As, at G) have their contents (cont) -/
structure RJ (W : World) (As : List Nat) (ty : Nat → TypeId) (deps : Nat → List Nat) (val : Nat → List Nat → Value) (cont : (Nat → Nat) → (Nat → Bool) → Nat → Array Value) (G : Nat → Nat) (L : Nat → Bool) (v : Nat → Value) (w : World) : Prop where
  fr : Fr W w
  vl : ∀ i, L i = true → v i = val i ((deps i).map G)
  bk : ∀ i ∈ As, L i = true → W.heap.size ≤ G i ∧ Blk w (G i) (cont G L i) (ty i)
  ne : ∀ i ∈ As, ∀ j ∈ As, L i = true → L j = true → i ≠ j → G i ≠ G j
  dp : ∀ i, L i = true → ∀ d ∈ deps i, L d = true
section
variable {W : World} {As : List Nat} {ty : Nat → TypeId} {deps : Nat → List Nat} {val : Nat → List Nat → Value} {cont : (Nat → Nat) → (Nat → Bool) → Nat → Array Value} {G : Nat → Nat} {L : Nat → Bool} {v : Nat → Value} {w w' : World}
theorem RJ.no (J : RJ W As ty deps val cont G L v w) {k i : Nat} (hi : L i = false) (hd : i ∈ deps k) : L k = false := bne fun h => bf (J.dp k h i hd) hi
theorem updL_ne {i j : Nat} (h : j ≠ i) : updL L i j = L j := if_neg h
theorem updL_at (i : Nat) : updL L i i = true := if_pos rfl
theorem upd_ne {i j : Nat} {x : Value} (h : j ≠ i) : upd v i x j = v j := if_neg h
theorem upd_at (i : Nat) (x : Value) : upd v i x i = x := if_pos rfl
theorem RJ.put (J : RJ W As ty deps val cont G L v w) (i : Nat) (hA : i ∉ As) (k : Nat) (hk : k ∈ As) (hl : L k = true) (hd : ∀ d ∈ deps i, L d = true) (hc : ∀ j ∈ As, j ≠ k → L j = true → cont G (updL L i) j = cont G L j)
    (fr : Fr W w') (hnew : Blk w' (G k) (cont G (updL L i) k) (ty k)) (hold : ∀ b arr T, b ≠ G k → Blk w b arr T → Blk w' b arr T) : RJ W As ty deps val cont G (updL L i) (upd v i (val i ((deps i).map G))) w' where
  fr := fr
  vl := fun j hj => by
    by_cases e : j = i
    · subst e; exact upd_at _ _
    · rw [upd_ne e]; rw [updL_ne e] at hj; exact J.vl j hj
  bk := fun j hj h => by
    have e : j ≠ i := fun e => hA (e ▸ hj)
    rw [updL_ne e] at h
    by_cases ek : j = k
    · subst ek; exact ⟨(J.bk j hj h).1, hnew⟩
    · rw [hc j hj ek h]
      exact ⟨(J.bk j hj h).1, hold _ _ _ (J.ne j hj k hk h hl ek) (J.bk j hj h).2⟩
  ne := fun a ha b hb h1 h2 => by
    have ea : a ≠ i := fun e => hA (e ▸ ha)
    have eb : b ≠ i := fun e => hA (e ▸ hb)
    rw [updL_ne ea] at h1
    rw [updL_ne eb] at h2
    exact J.ne a ha b hb h1 h2
  dp := fun j hj d hd' => by
    by_cases e : j = i
    · subst e
      by_cases e2 : d = j
      · subst e2; exact updL_at _
      · rw [updL_ne e2]; exact hd d hd'
    · rw [updL_ne e] at hj
      by_cases e2 : d = i
      · subst e2; exact updL_at _
      · rw [updL_ne e2]; exact J.dp j hj d hd'
theorem RJ.pure (J : RJ W As ty deps val cont G L v w) (i : Nat) (hA : i ∉ As) (hd : ∀ d ∈ deps i, L d = true) (hc : ∀ j ∈ As, L j = true → cont G (updL L i) j = cont G L j)
    (f : Fr w w') : RJ W As ty deps val cont G (updL L i) (upd v i (val i ((deps i).map G))) w' where
  fr := J.fr.trans f
  vl := fun j hj => by
    by_cases e : j = i
    · subst e; exact upd_at _ _
    · rw [upd_ne e]; rw [updL_ne e] at hj; exact J.vl j hj
  bk := fun j hj h => by
    have e : j ≠ i := fun e => hA (e ▸ hj)
    rw [updL_ne e] at h
    rw [hc j hj h]
    exact ⟨(J.bk j hj h).1, (J.bk j hj h).2.fr f⟩
  ne := fun a ha b hb h1 h2 => by
    have ea : a ≠ i := fun e => hA (e ▸ ha)
    have eb : b ≠ i := fun e => hA (e ▸ hb)
    rw [updL_ne ea] at h1
    rw [updL_ne eb] at h2
    exact J.ne a ha b hb h1 h2
  dp := fun j hj d hd' => by
    by_cases e2 : d = i
    · subst e2; exact updL_at _
    · rw [updL_ne e2]
      by_cases e : j = i
      · subst e; exact hd d hd'
      · rw [updL_ne e] at hj; exact J.dp j hj d hd'
theorem RJ.new (J : RJ W As ty deps val cont G L v w) (i : Nat) (hi : i ∈ As) (hno : L i = false) (hdi : deps i = [i]) (hc : ∀ j ∈ As, j ≠ i → L j = true → cont (updG G i w.heap.size) (updL L i) j = cont G L j)
    {arr : Array Value} (ha : cont (updG G i w.heap.size) (updL L i) i = arr) : RJ W As ty deps val cont (updG G i w.heap.size) (updL L i) (upd v i (val i [w.heap.size])) (w.alloc (.cells arr (ty i))) where
  fr := J.fr.alloc _
  vl := fun j hj => by
    by_cases e : j = i
    · subst e
      rw [upd_at, hdi]
      simp only [List.map_cons, List.map_nil, updG, if_true]
    · rw [upd_ne e]; rw [updL_ne e] at hj
      rw [J.vl j hj]
      congr 1
      refine List.map_congr_left fun d hd => ?_
      have : d ≠ i := fun e2 => bf (J.dp j hj d hd) (e2 ▸ hno)
      simp only [updG, if_neg this]
  bk := fun j hj h => by
    by_cases e : j = i
    · subst e
      rw [ha]
      simp only [updG, if_true]
      exact ⟨J.fr.size, Blk.new w _ _⟩
    · rw [updL_ne e] at h
      rw [hc j hj e h]
      simp only [updG, if_neg e]
      exact ⟨(J.bk j hj h).1, (J.bk j hj h).2.old _⟩
  ne := fun a ha' b hb h1 h2 hne => by
    by_cases ea : a = i
    · subst ea
      have eb : b ≠ a := fun e => hne e.symm
      rw [updL_ne eb] at h2
      simp only [updG, if_true, if_neg eb]
      exact Nat.ne_of_gt (J.bk b hb h2).2.lt
    · rw [updL_ne ea] at h1
      by_cases eb : b = i
      · subst eb
        simp only [updG, if_true, if_neg ea]
        exact Nat.ne_of_lt (J.bk a ha' h1).2.lt
      · rw [updL_ne eb] at h2
        simp only [updG, if_neg ea, if_neg eb]
        exact J.ne a ha' b hb h1 h2 hne
  dp := fun j hj d hd' => by
    by_cases e2 : d = i
    · subst e2; exact updL_at _
    · rw [updL_ne e2]
      by_cases e : j = i
      · subst e
        rw [hdi] at hd'
        simp only [List.mem_cons, List.not_mem_nil, or_false] at hd'
        exact absurd hd' e2
      · rw [updL_ne e] at hj; exact J.dp j hj d hd'
end
/-- cells from m on are written over -/
def over (cur : Array Value) (m : Nat) (news : List Value) : Array Value := (cur.toList.take m ++ news ++ cur.toList.drop (m + news.length)).toArray
theorem over_nil (cur : Array Value) (m : Nat) : over cur m [] = cur := by simp [over]
theorem setRow_old {w : World} {g b : Nat} {arr xs : Array Value} {T : TypeId} (hne : b ≠ g) (h : Blk w b arr T) : Blk (w.setRow g xs) b arr T := (setRow_other w g b xs hne).trans h
theorem setRow_new {w : World} {g : Nat} {cur xs : Array Value} {T : TypeId} (h : Blk w g cur T) : Blk (w.setRow g xs) g xs T := setRow_heap w g cur xs T (0, 0) h
theorem Fr.row {a w : World} (h : Fr a w) (g : Nat) (hg : a.heap.size ≤ g) (xs : Array Value) : Fr a (w.setRow g xs) := below_setRow h hg xs
/-- append where there is room -/
theorem wp_append_room {α : Type} (E : Cd α) {w : World} {o : Oper} {a : Act} {K : Act → World → Prop} {Q : Exit → Act → World → Prop} (s x : Operand) (t e : TypeId) (i : TypeInfo)
    (ho : o.op = .call { callee := .builtin .append, args := #[s, x], argTypes := #[t, t] })
    (ht : Try.prog.underlying t = some (.slice e)) (hi : Try.prog.info? e = some i) (hs1 : i.size = E.k)
    (g m c : Nat) (cur : Array Value) (hs : a.eval s = .slice (some ⟨g, 0, none⟩) m c) (hb : Blk w g cur e)
    (u : Value) (l : List α) (hx : a.eval x = u) (hl : IsL E w u l) (hroom : m + l.length ≤ c) (hfit : c * E.k ≤ cur.size)
    (h : K (a.put o.dst (.slice (some ⟨g, 0, none⟩) (m + l.length) c)) (w.setRow g (over cur (m * E.k) (flat E l)))) : o.wp Try.prog a w K Q := by
  obtain ⟨A, cap, rfl, hc, hcs⟩ := hl
  cases A with
  | none =>
    have h0 : l = [] := by
      rcases hcs with h0 | ⟨b, o', hA, _⟩
      · exact h0
      · cases hA
    subst h0
    have hm : m ≤ c := by simpa using hroom
    have e0 : over cur (m * E.k) (flat E []) = cur := over_nil _ _
    rw [e0, setRow_self w g cur e (0, 0) hb] at h
    unfold Oper.wp
    simp only [List.length_nil] at hx h
    rw [Nat.add_zero] at h
    simp [execOp, ho, resolve, invoke, builtin, hs, hx, Result.andThen, Builtin.append_, run_underlying ht, sizeOf, typeInfo, hi, Builtin.lenOf, Builtin.firstCells, hm, storeCells]
    exact h
  | some A =>
    have hnews : ∀ j u, (flat E l)[j]? = some u → w.cell? (A.add j) = some u := by
      rcases hcs with h0 | ⟨b, o', hA, hb, hcc⟩
      · subst h0
        intro j u hu
        simp [flat] at hu
      · simp only [Option.some.injEq] at hA
        subst hA
        intro j u hu
        rw [Addr.add_lit]
        exact hcc j u hu
    have hfl : (flat E l).length = l.length * i.size := by rw [flat_len, hs1]
    have hr := run_append_room (P := Try.prog) w t o.type e i ht hi g m c cur hb A l.length cap (flat E l) hfl hnews (flat_one E l) hroom (by
      rw [hfl, ← Nat.add_mul]
      exact Nat.le_trans (Nat.mul_le_mul_right _ hroom) (by rw [hs1]; exact hfit))
    rw [hs1] at hr
    unfold Oper.wp execOp
    simp only [ho, resolve, invoke, builtin, Sem.run_bind, Sem.run_pure, Result.andThen_ok, List.map_toArray, List.map_cons, List.map_nil, hs, hx, hr]
    exact h
end Go.Proofs.Ytcgafodaohmcmaa
