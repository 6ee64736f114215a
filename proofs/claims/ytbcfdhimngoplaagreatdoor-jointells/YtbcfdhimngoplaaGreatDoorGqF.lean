/-
  What belongs together: RgI, BiA, EvV, BmM, BkM, BkN, BiB, BiC, BiD, BkG.
-/
import Derived.Test.YtbcfdhimngoplaaGreatDoorGqB
import Derived.OrdersIn
import Derived.RangeFuncNested
import Derived.RangeFuncBound
import Derived.RangeFuncCalls
import Derived.Test.YtbcfdhimngoplaaGreatDoorGqK
import Derived.RangeFuncLeaves
import Derived.Shelf.Abstract
import Derived.Shelf.RegionOpen
import Derived.OwnWalkIn
import Derived.TacticsInMore
import Derived.LoopNIn
import Derived.LoopIn
import Derived.Test.YtbcfdhimngoplaaGreatDoorEvN
import Derived.Test.YtbcfdhimngoplaaGreatDoorGqE
namespace Go.Proofs.YtbcfdhimngoplaaGreatDoor
open Go.ChangeShapes Go.WideShapes Go.ChangeAt Go.RowKit
set_option linter.unusedVariables false
set_option linter.unusedSimpArgs false
set_option maxRecDepth 100000
section
variable {P : Program} {ops : Array Oper} {Q : Exit → Act → World → Prop} {l n : Nat}
theorem oper_wpIn {o : Oper} {a : Act} {w : World} {K : Act → World → Prop} (hd : ∀ c, o.op ≠ .defer c) (h : o.wp P a w K (fun _ _ _ => False)) : o.wpIn (Fence.wide.inRound l) n P a w K Q := by
 unfold Oper.wpIn
 refine ⟨fun _ _ => trivial, ?_⟩
 rw [Oper.semAt_eq _ _ _ hd]
 unfold Oper.wp at h
 generalize (execOp a.eval o).run P w = r at h ⊢
 cases r with
 | ok x w' =>
  cases x with
  | value v => exact h
  | skip => exact h
  | defer d => exact h
  | enter f args =>
   refine ⟨fun h => by simp [Fence.inRound, Fence.wide] at h, ?_⟩
   refine CallsIn.inRound l (callsIn_wide.2 (Calls.mono h fun e w2 he => ?_))
   cases e with
   | returned v => exact he
   | panicked c => exact he.elim
   | outgrown =>
    obtain ⟨_, _, h⟩ := he
    exact h.elim
  | row row args =>
   refine ⟨fun h => by simp [Fence.inRound, Fence.wide] at h, ?_⟩
   intro c cs _
   obtain ⟨v, w2, r, s⟩ := h c cs
   exact ⟨v, w2, r, stepsIn_wide.2 s⟩
  | _ => exact h.elim
 | halt x w' => cases x <;> exact h.elim
theorem wpOpIn_of {i : Nat} {a : Act} {w : World} {K : Act → World → Prop} (hnd : ∀ o, ops[i]? = some o → ∀ c, o.op ≠ .defer c) (h : wpOp P ops (fun _ _ _ => False) i K a w) : wpOpIn (Fence.wide.inRound l) n P ops Q i K a w := by
 unfold wpOp at h
 unfold wpOpIn
 cases ho : ops[i]? with
 | none => simp only [ho] at h ⊢; exact h
 | some o =>
  simp only [ho] at h ⊢
  split at h
  ·
   rename_i hw
   rw [if_pos hw]
   rcases h with h | ⟨_, _, _, h⟩
   · exact oper_wpIn (hnd o ho) h
   · exact h.elim
  ·
   rename_i hw
   rw [if_neg hw]
   exact ⟨fun _ _ => trivial, h⟩
theorem wpAnyIn_inv {F : Fence} {md : Region.Mode} (I : Array Bool → Act → World → Prop)
  (hstep : ∀ listed a w, listed.size = ops.size → I listed a w → ∀ i ∈ Region.ready md ops listed, wpOpIn F n P ops Q i (I (listed.setIfInBounds i true)) a w)
  (hdone : ∀ listed a w, listed.size = ops.size → I listed a w → Region.ready md ops listed = [] → Q .normal a w) :
  ∀ (fuel : Nat) (listed : Array Bool) (a : Act) (w : World), I listed a w → listed.size = ops.size → (listed.toList.filter (fun b => !b)).length ≤ fuel → wpAnyIn F n P md ops Q fuel listed a w := by
 intro fuel
 induction fuel with
 | zero =>
  intro listed a w hI hs hf
  have hr : Region.ready md ops listed = [] := by
   cases hr : Region.ready md ops listed with
   | nil => rfl
   | cons i r =>
    have hi := ready_spec (md := md) (ops := ops) (listed := listed) (i := i) (by rw [hr]; simp)
    have := filt_set _ i (not_listed hi.2)
    omega
  exact ⟨hr, hdone listed a w hs hI hr⟩
 | succ fuel ih =>
  intro listed a w hI hs hf
  refine ⟨fun hr => hdone listed a w hs hI hr, fun i hi => ?_⟩
  refine wpOpIn_mono (fun a w h => ih _ a w h (by simpa using hs) ?_) (hstep listed a w hs hI i hi)
  have := filt_set _ i (not_listed (ready_spec hi).2)
  rw [Array.toList_setIfInBounds]
  omega
theorem region_inv2_in {id : Nat} {a : Act} {w : World} (hm : P.follows .mixedOrders = true)
  (hnd : ∀ (i : Nat) (o : Oper), ops[i]? = some o → ∀ c, o.op ≠ .defer c)
  (J : Array Bool → (Nat → Value) → World → Prop)
  (h0 : J (Array.replicate ops.size false) (fun _ => undef) w.drew)
  (hd : ∀ i, i < ops.size → ∀ j ∈ List.range ops.size, j ≠ i → ∀ e, dstOf ops j = some e → dstOf ops i ≠ some e)
  (hstep : ∀ (listed : Array Bool) (v : Nat → Value) (w : World) (A : Act), listed.size = ops.size → J listed v w → (∀ i d, dstOf ops i = some d → d < a.tmps.size → listed.getD i false = true → A.eval (.tmp d) = v i) →
   (∀ t, ((List.range ops.size).all fun j => decide (dstOf ops j ≠ some t)) = true → A.eval (.tmp t) = a.eval (.tmp t)) → ∀ i ∈ Region.ready .any ops listed,
   wpOp P ops (fun _ _ _ => False) i (fun a' w' => ∃ x, a' = A.put (dstOf ops i) x ∧ J (listed.setIfInBounds i true) (upd v i x) w') A w)
  (hdone : ∀ (listed : Array Bool) (v : Nat → Value) (w : World), listed.size = ops.size → J listed v w → Region.ready .any ops listed = [] → Q .normal (putL ops listed v (List.range ops.size) a) w) :
  (Code.region id ops true).wpIn (Fence.wide.inRound l) n P Q a w := by
 refine wpIn_region_any hm ?_
 refine wpAnyIn_inv (fun listed a' w' => ∃ v, a' = putL ops listed v (List.range ops.size) a ∧ J listed v w') ?_ ?_ ops.size _ a _ ?_ (by simp) ?_
 ·
  rintro listed a' w' hs ⟨v, rfl, hJ⟩ i hi
  obtain ⟨hi1, hi2⟩ := ready_spec hi
  refine wpOpIn_mono ?_ (wpOpIn_of (fun o ho => hnd i o ho) (hstep listed v w' _ hs hJ ?_ ?_ i hi))
  ·
   rintro a2 w2 ⟨x, rfl, hJ2⟩
   refine ⟨upd v i x, ?_, hJ2⟩
   refine putL_step (by rw [hs]; exact hi1) ?_ _ a (List.mem_range.2 hi1) List.nodup_range (fun j hj hne e he => hd i hi1 j hj hne e he)
   have hlt : i < listed.size := by rw [hs]; exact hi1
   unfold Array.getD at hi2 ⊢
   rw [dif_pos hlt] at hi2 ⊢
   exact hi2
  ·
   intro k d hk hda hl
   have hks : k < ops.size := by
    unfold dstOf at hk
    cases hq : ops[k]? with
    | none => rw [hq] at hk; cases hk
    | some o => exact (Array.getElem?_eq_some_iff.1 hq).1
   exact putL_at hk hl _ a (List.mem_range.2 hks) List.nodup_range (fun j hj hne he => hd k hks j hj hne d he hk) hda
  ·
   intro t ht
   refine putL_old _ a (fun j hj => ?_)
   have := List.all_eq_true.1 ht j hj
   simpa using this
 ·
  rintro listed a' w' hs ⟨v, rfl, hJ⟩ hr
  exact hdone listed v w' hs hJ hr
 ·
  refine ⟨fun _ => undef, ?_, h0⟩
  have : ∀ (l : List Nat), putL ops (Array.replicate ops.size false) (fun _ => undef) l a = a := by
   intro l
   induction l with
   | nil => rfl
   | cons i r ih =>
    unfold putL
    rw [if_neg (by
     unfold Array.getD
     split
     · simp
     · simp)]
    exact ih
  exact (this _).symm
 · simp
end
end Go.Proofs.YtbcfdhimngoplaaGreatDoor
namespace Go.Proofs.YtbcfdhimngoplaaGreatDoor
open Go.ChangeShapes Go.WideShapes Go.ChangeAt Go.RowKit Go.Shelf
set_option linter.unusedVariables false
set_option linter.unusedSimpArgs false
set_option maxRecDepth 100000
attribute [local go_sem] Oper.semAt_some
abbrev Rp (w0 : World) := { x : Sq × List VM.Vl // IsL cdV w0 x.1.v x.2 ∧ x.2.length ≤ 8 }
abbrev R2 (w0 : World) := Rp w0 × Rp w0
def rpV {w0 : World} (x : R2 w0) : Array Value := #[.slice x.1.1.1.a x.1.1.1.n x.1.1.1.c, .slice x.2.1.1.a x.2.1.1.n x.2.1.1.c]
def sqs {w0 : World} (l : List (Rp w0)) : List Sq := l.map fun x => x.1.1
def lns {w0 : World} (l : List (Rp w0)) : List (List VM.Vl) := l.map fun x => x.1.2
theorem sqs_len {w0 : World} (l : List (Rp w0)) : (sqs l).length = l.length := by simp [sqs]
theorem sqs_at {w0 : World} (l : List (Rp w0)) (i : Nat) (h : i < (sqs l).length) : (sqs l)[i] = (l[i]'(by simpa [sqs] using h)).1.1 := by simp [sqs]
def wth {w0 : World} (ys_ : List (Rp w0)) (x : Rp w0) : List (R2 w0) := ys_.map fun y => (x, y)
def allp {w0 : World} (xs ys_ : List (Rp w0)) : List (R2 w0) := xs.flatMap (wth ys_)
theorem allp_take {w0 : World} (xs ys_ : List (Rp w0)) (i : Nat) (h : i < xs.length) : allp (xs.take (i + 1)) ys_ = allp (xs.take i) ys_ ++ wth ys_ xs[i] := by
 unfold allp
 rw [List.take_succ_eq_append_getElem h, List.flatMap_append]
 simp
theorem wth_take {w0 : World} (ys_ : List (Rp w0)) (x : Rp w0) (j : Nat) (h : j < ys_.length) : wth (ys_.take (j + 1)) x = wth (ys_.take j) x ++ [(x, ys_[j])] := by
 unfold wth
 rw [List.take_succ_eq_append_getElem h, List.map_append]
 rfl
theorem allp_len {w0 : World} (xs ys_ : List (Rp w0)) : (allp xs ys_).length = xs.length * ys_.length := by
 unfold allp
 induction xs with
 | nil => simp
 | cons x t ih => rw [List.flatMap_cons, List.length_append, ih, List.length_cons, Nat.succ_mul]; simp [wth]; omega
theorem wth_len {w0 : World} (ys_ : List (Rp w0)) (x : Rp w0) : (wth ys_ x).length = ys_.length := by simp [wth]
structure K2 (n₀ Ba Bb : Nat) (A B : World) : Prop where
 b : Below n₀ A B
 x : B.heap[Ba]? = A.heap[Ba]?
 y : B.heap[Bb]? = A.heap[Bb]?
theorem K2.refl (n₀ Ba Bb : Nat) (A : World) : K2 n₀ Ba Bb A A := ⟨Below.refl _ _, rfl, rfl⟩
theorem k2_t {n₀ Ba Bb : Nat} {A B C : World} (h : K2 n₀ Ba Bb A B) (k : K2 n₀ Ba Bb B C) : K2 n₀ Ba Bb A C := ⟨h.b.trans k.b, k.x.trans h.x, k.y.trans h.y⟩
theorem k2_b {n₀ Ba Bb : Nat} {w : World} (hn : n₀ ≤ w.heap.size) (hA : Ba < w.heap.size) (hB : Bb < w.heap.size) (W : World) (l : Nat) (o o' : Obj) (hl : w.heap.size ≤ l) (h1 : W.heap[l]? = some o) (h2 : o.isCells = false) (h3 : o.isWalk = false) : K2 n₀ Ba Bb W (W.putObj l o') :=
 ⟨belowK_b (w := w) hn W l o o' hl h1 h2 h3, World.putObj_heap_other (by omega), World.putObj_heap_other (by omega)⟩
set_option maxHeartbeats 2000000 in
theorem pairs1_in (n : Nat) (hn : 1 ≤ n) (l Ba Bb n₀ : Nat) (a b : Option Addr) (ca cb : Nat) (w0 : World) (xs ys_ : List (Rp w0)) (hA : xs.length ≤ 1000) (hB : ys_.length ≤ 1000) (J Jx : List (R2 w0) → World → Prop)
  (hY : ∀ pre (x : R2 w0) W, J pre W → pre.length < xs.length * ys_.length → YieldAt Fence.wide (n - 1) Tryz.prog l (rpV x) W fun e W' =>
   (e = .returned (.bool true) ∧ J (pre ++ [x]) W' ∧ K2 n₀ Ba Bb W W') ∨ (e = .returned (.bool false) ∧ Jx (pre ++ [x]) W'))
  (W : World) (hca : W.cell? ⟨Ba, 0, none⟩ = some (.slice a xs.length ca)) (hcb : W.cell? ⟨Bb, 0, none⟩ = some (.slice b ys_.length cb))
  (hsa : xs = [] ∨ ∃ g o, a = some ⟨g, o, none⟩ ∧ g < n₀ ∧ At cdS W g o (sqs xs)) (hsb : ys_ = [] ∨ ∃ g o, b = some ⟨g, o, none⟩ ∧ g < n₀ ∧ At cdS W g o (sqs ys_)) (h0 : J [] W) :
  CallsIn Fence.wide n Tryz.prog 67 #[.func (.yield l) #[] #[], .pointer (some ⟨Ba, 0, none⟩), .pointer (some ⟨Bb, 0, none⟩)] W fun e W' => (∃ v, e = .returned v) ∧
   ((∃ ys, ys = allp xs ys_ ∧ J ys W') ∨ (∃ pre, True ∧ Jx pre W')) := by
 have HA := hideP hsa
 have HB := hideP hsb
 have HYi := hideP hY
 clear hsa hsb hY
 refine callsIn_of_wp Tryz.func67 rfl trivial ?_ rfl
 simp only [Tryz.ntmps67, List.size_toArray, List.length_cons, List.length_nil, Nat.reduceAdd, Nat.reduceSub, Array.replicate_succ, Array.replicate_zero, List.push_toArray, List.append_toArray, List.nil_append, List.cons_append]
 gi_wp2
 gi_loopw [5, 7, 10] (fun _ _ i wr => ∃ k : Nat, k ≤ xs.length ∧ i = .int .i64 (k : Int) ∧ J (allp (xs.take k) ys_) wr ∧ K2 n₀ Ba Bb W wr) (fun _ _ i _ => xs.length - (intOf i).toNat)
 case atStart => exact ⟨0, Nat.zero_le _, rfl, h0, K2.refl _ _ _ _⟩
 case round =>
  obtain ⟨k, hk, rfl, hJs, hnx⟩ := hrel
  by_cases hlt : k < xs.length
  case neg =>
   obtain rfl : k = xs.length := by omega
   rw [List.take_length] at hJs
   have HJ := hideP hJs
   clear hJs
   gi_wp2
   go_end0
   exact ⟨⟨_, rfl⟩, .inl ⟨_, rfl, HJ.out⟩⟩
  have hltZ : (k : Int) < (xs.length : Int) := by omega
  obtain ⟨ga, oa, rfl, hga, hat⟩ : ∃ g o, a = some ⟨g, o, none⟩ ∧ g < n₀ ∧ At cdS W g o (sqs xs) := by
   rcases HA.out with h | h
   · subst h; simp at hlt
   · exact h
  have c0' := hat.s1 k (by rw [sqs_len]; exact hlt)
  rw [sqs_at] at c0'
  have c0 : wr.cell? ⟨ga, oa + k, none⟩ = _ := (hnx.b.cell (p := ⟨ga, oa + k, none⟩) hga).trans c0'
  have hcr : wr.cell? ⟨Bb, 0, none⟩ = some (.slice b ys_.length cb) := (World.cell?_of_block (a := ⟨Bb, 0, none⟩) hnx.y).trans hcb
  have hst := allp_take xs ys_ k hlt
  have hpl := allp_len (xs.take k) ys_
  rw [List.length_take, Nat.min_eq_left (by omega)] at hpl
  generalize xs[k] = x at *
  obtain ⟨⟨⟨xa, xn, xc⟩, xl⟩, hx⟩ := x
  simp only at c0
  have HSt := hideP hst
  have HJ := hideP hJs
  have HN := hideP hnx
  have HPl := hideP hpl
  clear hst hJs hnx c0' hat hpl
  gi_wp2
  clear c0
  gi_loopw [7, 16] (fun _ i wr => ∃ j : Nat, j ≤ ys_.length ∧ i = .int .i64 (j : Int) ∧ J (allp (xs.take k) ys_ ++ wth (ys_.take j) ⟨((⟨xa, xn, xc⟩ : Sq), xl), hx⟩) wr ∧ K2 n₀ Ba Bb W wr) (fun _ i _ => ys_.length - (intOf i).toNat)
  case atStart => exact ⟨0, Nat.zero_le _, rfl, by simpa [wth] using HJ.out, HN.out⟩
  case round =>
   clear HJ HN hcr
   obtain ⟨j, hj, rfl, hJs, hnx⟩ := hrel
   by_cases hltj : j < ys_.length
   case neg =>
    obtain rfl : j = ys_.length := by omega
    rw [List.take_length] at hJs
    have HJ := hideP hJs
    have HN := hideP hnx
    clear hJs hnx
    gi_wp2
    go_roundw
    case rel => exact ⟨k + 1, by omega, by go_num, by rw [HSt.out]; exact HJ.out, HN.out⟩
    case measure => first | (simp [intOf]; done) | (simp [intOf]; omega)
   have hltjZ : (j : Int) < (ys_.length : Int) := by omega
   obtain ⟨gb, ob, rfl, hgb, hat⟩ : ∃ g o, b = some ⟨g, o, none⟩ ∧ g < n₀ ∧ At cdS W g o (sqs ys_) := by
    rcases HB.out with h | h
    · subst h; simp at hltj
    · exact h
   have c0' := hat.s1 j (by rw [sqs_len]; exact hltj)
   rw [sqs_at] at c0'
   have c0 : wr.cell? ⟨gb, ob + j, none⟩ = _ := (hnx.b.cell (p := ⟨gb, ob + j, none⟩) hgb).trans c0'
   have hst := wth_take ys_ ⟨((⟨xa, xn, xc⟩ : Sq), xl), hx⟩ j hltj
   have hwl := wth_len (ys_.take j) ⟨((⟨xa, xn, xc⟩ : Sq), xl), hx⟩
   rw [List.length_take, Nat.min_eq_left (by omega)] at hwl
   generalize ys_[j] = y at *
   have hbound : (allp (xs.take k) ys_ ++ wth (ys_.take j) ⟨((⟨xa, xn, xc⟩ : Sq), xl), hx⟩).length < xs.length * ys_.length := by
    rw [List.length_append, HPl.out, hwl]
    have : (k + 1) * ys_.length ≤ xs.length * ys_.length := Nat.mul_le_mul_right _ (by omega)
    rw [Nat.succ_mul] at this
    omega
   obtain ⟨fn, tmps, assign, body, hy, hR⟩ := HYi.out _ (⟨((⟨xa, xn, xc⟩ : Sq), xl), hx⟩, y) wr hJs hbound
   obtain ⟨⟨⟨ya, yn, yc⟩, yl⟩, hyy⟩ := y
   simp only [rpV] at hy
   simp only at c0
   have HSt2 := hideP hst
   have HN := hideP hnx
   clear hst hJs hnx c0' hat hwl hbound
   gi_wp2
   refine hR.mono ?_
   rintro e W3 (⟨rfl, hJ3, hk3⟩ | ⟨rfl, hJx3⟩)
   ·
    have HJ3 := hideP hJ3
    have HK3 := hideP (k2_t HN.out hk3)
    clear hJ3 hk3
    gi_wp2
    go_roundw
    case rel => exact ⟨j + 1, by omega, by go_num, by rw [HSt2.out, ← List.append_assoc]; exact HJ3.out, HK3.out⟩
    case measure => first | (simp [intOf]; done) | (simp [intOf]; omega)
   ·
    gi_wp2
    refine bodyPost_ret (results_none rfl _ _ _) rfl ?_
    exact ⟨⟨_, rfl⟩, .inr ⟨_, trivial, hJx3⟩⟩
theorem pairs_any (u v : Value) (w : World) (hu : ∃ a n c, u = .slice a n c) (hv : ∃ a n c, v = .slice a n c) :
  Calls Tryz.prog 49 #[u, v] w fun e w' => e = .returned (.func (.func 67) #[] #[.pointer (some ⟨w.heap.size, 0, none⟩), .pointer (some ⟨w.heap.size + 1, 0, none⟩)]) ∧ w' = (w.alloc (.cells #[u] 22)).alloc (.cells #[v] 22) := by
 obtain ⟨a, n, c, rfl⟩ := hu
 obtain ⟨a', n', c', rfl⟩ := hv
 go_enter Tryz.func49, Tryz.ntmps49
 go_wp2
 go_ret
 exact ⟨rfl, rfl⟩
theorem pairs_stops (n : Nat) (hn : 1 ≤ n) (Ba Bb n₀ : Nat) (u v : Value) (w0 : World) (xs ys_ : List (Rp w0)) (hA : xs.length ≤ 1000) (hB : ys_.length ≤ 1000) (w : World) (hn₀ : n₀ ≤ w.heap.size) (hb0 : Below n₀ w0 w) (hw0 : w0.heap.size = n₀) (hca : w.cell? ⟨Ba, 0, none⟩ = some u) (hcb : w.cell? ⟨Bb, 0, none⟩ = some v) (hIa : IsL cdS w0 u (sqs xs)) (hIb : IsL cdS w0 v (sqs ys_)) :
  SeqStopsK Fence.wide n Tryz.prog 67 #[.pointer (some ⟨Ba, 0, none⟩), .pointer (some ⟨Bb, 0, none⟩)] (rpV (w0 := w0)) (K2 n₀ Ba Bb) (fun ys => ys = allp xs ys_) (fun _ => True) (xs.length * ys_.length) w :=
 fun l J Jx W hW _ _ hY h0 => by
  obtain ⟨a, ca, rfl, _, hsa⟩ := hIa
  obtain ⟨b, cb, rfl, _, hsb⟩ := hIb
  rw [sqs_len] at hca hcb
  refine pairs1_in n hn l Ba Bb n₀ a b ca cb w0 xs ys_ hA hB J Jx hY W ((hW.cell (p := ⟨Ba, 0, none⟩) (World.block_lt_of_cell? _ _ hca)).trans hca) ((hW.cell (p := ⟨Bb, 0, none⟩) (World.block_lt_of_cell? _ _ hcb)).trans hcb) ?_ ?_ h0
  ·
   rcases hsa with h | ⟨g, o, rfl, hg, hh⟩
   · exact .inl (by simpa [sqs] using h)
   · exact .inr ⟨g, o, rfl, by omega, fun j x hx => ((Below.mono hW (by omega)).cell (p := ⟨g, o + j, none⟩) (by show g < n₀; omega)).trans ((hb0.cell (p := ⟨g, o + j, none⟩) (by show g < n₀; omega)).trans (hh j x hx))⟩
  ·
   rcases hsb with h | ⟨g, o, rfl, hg, hh⟩
   · exact .inl (by simpa [sqs] using h)
   · exact .inr ⟨g, o, rfl, by omega, fun j x hx => ((Below.mono hW (by omega)).cell (p := ⟨g, o + j, none⟩) (by show g < n₀; omega)).trans ((hb0.cell (p := ⟨g, o + j, none⟩) (by show g < n₀; omega)).trans (hh j x hx))⟩
theorem rps_of {w : World} : ∀ (qs : List Sq) (ls : List (List VM.Vl)), qs.length = ls.length → (∀ i (h1 : i < qs.length) (h2 : i < ls.length), IsL cdV w qs[i].v ls[i]) → (∀ r ∈ ls, r.length ≤ 8) → ∃ xs : List (Rp w), sqs xs = qs ∧ lns xs = ls
 | [], [], _, _, _ => ⟨[], rfl, rfl⟩
 | q :: qs, r :: ls, hl, h, h8 => by
  obtain ⟨xs, h1, h2⟩ := rps_of qs ls (by simpa using hl) (fun i a b => h (i + 1) (by simpa using a) (by simpa using b)) (fun r hr => h8 r (by simp [hr]))
  exact ⟨⟨(q, r), h 0 (by simp) (by simp), h8 r (by simp)⟩ :: xs, by simp [sqs] at h1 ⊢; exact h1, by simp [lns] at h2 ⊢; exact h2⟩
end Go.Proofs.YtbcfdhimngoplaaGreatDoor
namespace Go.Proofs.YtbcfdhimngoplaaGreatDoor
set_option linter.unusedVariables false
set_option linter.unusedSimpArgs false
namespace EX
open VM
def F.good : F → Prop
 | .nil => True
 | .nd n k s => nchk n = 0 ∧ n.kids = (k.len : Int) ∧ F.good k ∧ F.good s
theorem F.good.right : ∀ {t : F}, t.good → t.right
 | .nil, _ => trivial
 | .nd n k s, h => ⟨h.2.1, h.2.2.1.right, h.2.2.2.right⟩
def dp : F → List Nat
 | .nil => []
 | .nd n k s => (mx (dp k) + 1) :: dp s
def nv {α : Type} (f : Nd → List α → Except Nat α) (n : Nd) (k : F) : Except Nat α := match vals f k with
 | .error c => .error c
 | .ok ks => f n ks
end EX
namespace EV
open VM EX
def lit (y : Vl) : Nd := ⟨1, 0, y, ⟨#[]⟩⟩
def isCol (c : ByteArray) (n : Nd) : Bool := decide (n.op = 2) && (decide (n.kids = 0) && (decide (n.v.k = 0) && (decide (n.v.n = 0) && (decide (n.v.s = ⟨#[]⟩) && decide (n.nm = c)))))
def plc (c : ByteArray) (y : Vl) (n : Nd) : Nd := if isCol c n = true then lit y else n
end EV
end Go.Proofs.YtbcfdhimngoplaaGreatDoor
set_option linter.unusedVariables false
set_option linter.unusedSimpArgs false
namespace Go.Proofs.YtbcfdhimngoplaaGreatDoor
namespace BM
section
variable {α : Type} [DecidableEq α]
def dst : List α → List α → List α
 | _, [] => []
 | b, x :: l => if x ∈ b then dst (b ++ [x]) l else x :: dst (b ++ [x]) l
def dist (l : List α) : List α := dst [] l
theorem dst_alike : ∀ (l : List α) {b c : List α}, (∀ x, x ∈ b ↔ x ∈ c) → dst b l = dst c l
 | [], _, _, _ => rfl
 | x :: l, b, c, h => by
  have : dst (b ++ [x]) l = dst (c ++ [x]) l := dst_alike l fun y => by simp [h y]
  simp only [dst, this, h x]
theorem dst_append : ∀ (l m b : List α), dst b (l ++ m) = dst b l ++ dst (b ++ l) m
 | [], m, b => by simp [dst]
 | x :: l, m, b => by
  rw [List.cons_append, dst, dst, dst_append l m]
  have : b ++ [x] ++ l = b ++ x :: l := by simp
  rw [this]
  split <;> simp
theorem mem_dst {y : α} : ∀ (l b : List α), y ∈ dst b l ↔ y ∈ l ∧ y ∉ b
 | [], b => by simp [dst]
 | x :: l, b => by
  have ih := mem_dst (y := y) l (b ++ [x])
  rw [dst]
  by_cases e : x ∈ b
  ·
   rw [if_pos e, ih]
   simp only [List.mem_append, List.mem_cons, List.not_mem_nil, or_false, not_or]
   constructor
   · rintro ⟨h1, h2, h3⟩; exact ⟨.inr h1, h2⟩
   ·
    rintro ⟨h1 | h1, h2⟩
    · rw [h1] at h2; exact absurd e h2
    · exact ⟨h1, h2, fun h => h2 (h ▸ e)⟩
  ·
   rw [if_neg e, List.mem_cons, ih]
   simp only [List.mem_append, List.mem_cons, List.not_mem_nil, or_false, not_or]
   constructor
   ·
    rintro (h1 | ⟨h1, h2, h3⟩)
    · exact ⟨.inl h1, h1 ▸ e⟩
    · exact ⟨.inr h1, h2⟩
   ·
    rintro ⟨h1 | h1, h2⟩
    · exact .inl h1
    ·
     by_cases f : y = x
     · exact .inl f
     · exact .inr ⟨h1, h2, f⟩
theorem mem_dist {y : α} (l : List α) : y ∈ dist l ↔ y ∈ l := by simp [dist, mem_dst]
theorem dst_nodup : ∀ (l b : List α), (dst b l).Nodup
 | [], b => by simp [dst]
 | x :: l, b => by
  rw [dst]; split
  · exact dst_nodup l _
  ·
   refine List.nodup_cons.mpr ⟨?_, dst_nodup l _⟩
   rw [mem_dst]; simp
theorem dist_nodup (l : List α) : (dist l).Nodup := dst_nodup l []
theorem dst_id : ∀ (l b : List α), l.Nodup → (∀ x ∈ l, x ∉ b) → dst b l = l
 | [], _, _, _ => rfl
 | x :: l, b, h, hb => by
  obtain ⟨h1, h2⟩ := List.nodup_cons.mp h
  rw [dst, if_neg (hb x (by simp)), dst_id l _ h2]
  intro y hy
  simp only [List.mem_append, List.mem_singleton, not_or]
  exact ⟨hb y (by simp [hy]), fun e => h1 (e ▸ hy)⟩
theorem dist_id {l : List α} (h : l.Nodup) : dist l = l := dst_id l [] h (by simp)
theorem dst_len : ∀ (l b : List α), (dst b l).length ≤ l.length
 | [], _ => Nat.le_refl _
 | x :: l, b => by
  have := dst_len l (b ++ [x])
  rw [dst]; split
  · simp; omega
  · simpa using this
theorem dist_parts (a b : List α) : dist (dist a ++ b) = dist (a ++ b) ∧ dist (a ++ b) = dist a ++ dst a b := by
 have h2 : dist (a ++ b) = dist a ++ dst a b := by simp [dist, dst_append]
 refine ⟨?_, h2⟩
 rw [h2, dist, dst_append, List.nil_append]
 rw [show dst [] (dist a) = dist a from dist_id (dist_nodup a)]
 rw [dst_alike b fun x => mem_dist a]
end
section
variable {α β γ : Type}
def pairs (f : α → β → γ) (a : List α) (b : List β) : List γ := a.flatMap fun x => b.map (f x)
theorem flat_cons (g : β → γ) (h : β → List γ) : ∀ b : List β, (b.flatMap fun y => g y :: h y).Perm (b.map g ++ b.flatMap h)
 | [] => .refl _
 | y :: b => by
  simp only [List.flatMap_cons, List.map_cons, List.cons_append]
  refine List.Perm.cons _ ?_
  refine ((flat_cons g h b).append_left (h y)).trans ?_
  rw [← List.append_assoc, ← List.append_assoc]
  exact List.perm_append_comm.append_right _
theorem pairs_length (f : α → β → γ) (b : List β) : ∀ a : List α, (pairs f a b).length = a.length * b.length
 | [] => by simp [pairs]
 | x :: a => by
  have := pairs_length f b a
  simp only [pairs, List.flatMap_cons, List.length_append, List.length_map, List.length_cons] at this ⊢
  rw [this, Nat.succ_mul]; omega
theorem pairs_append (f : α → β → γ) (a a' : List α) (b : List β) : pairs f (a ++ a') b = pairs f a b ++ pairs f a' b := by
 simp [pairs, List.flatMap_append]
def join (a b : List (List α)) : List (List α) := pairs (· ++ ·) a b
end
section
variable {α κ β : Type} [DecidableEq κ]
def part (key : α → κ) (l : List α) (k : κ) : List α := l.filter fun x => decide (key x = k)
end
end BM
end Go.Proofs.YtbcfdhimngoplaaGreatDoor
namespace Go.Proofs.YtbcfdhimngoplaaGreatDoor
set_option linter.unusedVariables false
set_option linter.unusedSimpArgs false
namespace BG
open VM
def kp (f : List Vl → Except Nat Int) (r : List Vl) : Bool := match f r with
 | .ok t => decide (t = 2)
 | .error _ => false
end BG
namespace EV
open VM EX
end EV
namespace BG
open VM
end BG
end Go.Proofs.YtbcfdhimngoplaaGreatDoor
namespace Go.Proofs.YtbcfdhimngoplaaGreatDoor
set_option linter.unusedVariables false
set_option linter.unusedSimpArgs false
namespace BG
open VM
section
variable {α β : Type} {f : α → Except Nat β}
theorem mp_len : ∀ {l : List α} {m : List β}, mp f l = .ok m → m.length = l.length
 | [], m, h => by cases h; rfl
 | a :: t, m, h => by
  cases ha : f a with
  | error c => rw [mp_err ha] at h; cases h
  | ok x =>
   rw [mp_ok ha] at h
   cases ht : mp f t with
   | error c => rw [ht] at h; cases h
   | ok k =>
    rw [ht] at h
    cases h
    have := mp_len ht
    simp [this]
end
def jn (a b : List (List Vl)) : Except Nat (List (List Vl)) := if chk a ≠ 0 then .error (chk a) else if chk b ≠ 0 then .error (chk b) else if 8 < wd a + wd b ∨ 40 < a.length * b.length then .error 2 else .ok (BM.join a b)
theorem jn_iff {a b m : List (List Vl)} : jn a b = .ok m ↔ chk a = 0 ∧ chk b = 0 ∧ (wd a + wd b ≤ 8 ∧ a.length * b.length ≤ 40) ∧ m = BM.join a b := by
 unfold jn
 by_cases h1 : chk a = 0
 case neg => rw [if_pos h1]; exact ⟨fun h => (by cases h), fun h => absurd h.1 h1⟩
 rw [if_neg (by simp [h1])]
 by_cases h2 : chk b = 0
 case neg => rw [if_pos h2]; exact ⟨fun h => (by cases h), fun h => absurd h.2.1 h2⟩
 rw [if_neg (by simp [h2])]
 by_cases h3 : 8 < wd a + wd b ∨ 40 < a.length * b.length
 · rw [if_pos h3]; exact ⟨fun h => (by cases h), fun h => by have := h.2.2.1; omega⟩
 ·
  rw [if_neg h3]
  constructor
  · intro h; cases h; exact ⟨h1, h2, by omega, rfl⟩
  · rintro ⟨_, _, _, rfl⟩; rfl
theorem join_len (a b : List (List Vl)) : (BM.join a b).length = a.length * b.length := BM.pairs_length _ b a
theorem join_mem {a b : List (List Vl)} {r : List Vl} (h : r ∈ BM.join a b) : ∃ x ∈ a, ∃ y ∈ b, r = x ++ y := by
 unfold BM.join BM.pairs at h
 obtain ⟨x, hx, h2⟩ := List.mem_flatMap.1 h
 obtain ⟨y, hy, rfl⟩ := List.mem_map.1 h2
 exact ⟨x, hx, y, hy, rfl⟩
end BG
end Go.Proofs.YtbcfdhimngoplaaGreatDoor
namespace Go.Proofs.YtbcfdhimngoplaaGreatDoor
open Go.ChangeShapes Go.WideShapes Go.ChangeAt Go.RowKit
set_option linter.unusedVariables false
set_option linter.unusedSimpArgs false
set_option maxRecDepth 100000
set_option maxHeartbeats 2000000
def JnAft (W : World) (B n : Nat) (qs : List Sq) (lr : List VM.Vl) (jv : Value) (w : World) (u : Value) : Prop :=
 ∃ (q : Sq) (W5 : World), Fr W W5 ∧ W5.ownsRow W.heap.size 56 3 q.v lr.length (flat cdV lr) ∧ W5.grownBy w jv.ownBlock ∧ w.ownsRow B 31 1 u (n + 1) (flat cdS (qs ++ [q]))
structure JnJ (W : World) (B n Bx : Nat) (qs : List Sq) (lr : List VM.Vl) (jv lv rv : Value) (L : Nat → Bool) (v : Nat → Value) (w : World) : Prop where
 fr : L 6 = false → Fr W w
 m0 : L 0 = true → v 0 = jv
 m1 : L 1 = true → v 1 = lv
 m2 : L 2 = true → v 2 = rv
 b3 : L 3 = true → L 4 = false → ∃ g, v 3 = .slice (some ⟨g, 0, none⟩) 2 2 ∧ Blk w g #[lv, rv] 31
 a4 : L 4 = true → L 5 = false → ∃ q : Sq, v 4 = q.v ∧ w.ownsRow W.heap.size 56 3 q.v lr.length (flat cdV lr)
 b5 : L 5 = true → L 6 = false → ∃ (q : Sq) (g : Nat), v 5 = .slice (some ⟨g, 0, none⟩) 1 1 ∧ Blk w g #[q.v] 31 ∧ w.ownsRow W.heap.size 56 3 q.v lr.length (flat cdV lr)
 a6 : L 6 = true → L 7 = false → JnAft W B n qs lr jv w (v 6)
 a7 : L 7 = true → ∃ w6 u, JnAft W B n qs lr jv w6 u ∧ w = w6.setCell ⟨Bx, 0, none⟩ u
 o43 : L 4 = true → L 3 = true
 o54 : L 5 = true → L 4 = true
 o65 : L 6 = true → L 5 = true
 o76 : L 7 = true → L 6 = true
 o60 : L 6 = true → L 0 = true
section
variable {W : World} {B n Bx : Nat} {qs : List Sq} {lr : List VM.Vl} {jv lv rv : Value} {L : Nat → Bool} {v : Nat → Value} {w : World}
theorem JnJ.low (J : JnJ W B n Bx qs lr jv lv rv L v w) {k : Nat} : (k = 3 → L 3 = false → L 4 = false ∧ L 5 = false ∧ L 6 = false ∧ L 7 = false) ∧ (L 4 = false → L 5 = false ∧ L 6 = false ∧ L 7 = false) ∧ (L 5 = false → L 6 = false ∧ L 7 = false) ∧ (L 6 = false → L 7 = false) := by
 have h7 : L 6 = false → L 7 = false := fun h => bne fun h7 => bf (J.o76 h7) h
 have h6 : L 5 = false → L 6 = false := fun h => bne fun h7 => bf (J.o65 h7) h
 have h5 : L 4 = false → L 5 = false := fun h => bne fun h7 => bf (J.o54 h7) h
 have h4 : L 3 = false → L 4 = false := fun h => bne fun h7 => bf (J.o43 h7) h
 exact ⟨fun _ h => ⟨h4 h, h5 (h4 h), h6 (h5 (h4 h)), h7 (h6 (h5 (h4 h)))⟩, fun h => ⟨h5 h, h6 (h5 h), h7 (h6 (h5 h))⟩, fun h => ⟨h6 h, h7 (h6 h)⟩, h7⟩
theorem JnJ.st0 (J : JnJ W B n Bx qs lr jv lv rv L v w) : JnJ W B n Bx qs lr jv lv rv (updL L 0) (upd v 0 jv) w :=
 ⟨J.fr, fun _ => rfl, J.m1, J.m2, J.b3, J.a4, J.b5, J.a6, J.a7, J.o43, J.o54, J.o65, J.o76, fun _ => rfl⟩
theorem JnJ.st1 (J : JnJ W B n Bx qs lr jv lv rv L v w) : JnJ W B n Bx qs lr jv lv rv (updL L 1) (upd v 1 lv) w :=
 ⟨J.fr, J.m0, fun _ => rfl, J.m2, J.b3, J.a4, J.b5, J.a6, J.a7, J.o43, J.o54, J.o65, J.o76, J.o60⟩
theorem JnJ.st2 (J : JnJ W B n Bx qs lr jv lv rv L v w) : JnJ W B n Bx qs lr jv lv rv (updL L 2) (upd v 2 rv) w :=
 ⟨J.fr, J.m0, J.m1, fun _ => rfl, J.b3, J.a4, J.b5, J.a6, J.a7, J.o43, J.o54, J.o65, J.o76, J.o60⟩
theorem JnJ.st3 (J : JnJ W B n Bx qs lr jv lv rv L v w) (h3 : L 3 = false) : JnJ W B n Bx qs lr jv lv rv (updL L 3) (upd v 3 (.slice (some ⟨w.heap.size, 0, none⟩) 2 2)) (w.alloc (.cells #[lv, rv] 31)) := by
 obtain ⟨h4, h5, h6, h7⟩ := (J.low (k := 3)).1 rfl h3
 exact ⟨fun _ => (J.fr h6).alloc _, J.m0, J.m1, J.m2, fun _ _ => ⟨w.heap.size, rfl, Blk.new w _ _⟩, fun h => (bf h h4).elim, fun h => (bf h h5).elim, fun h => (bf h h6).elim, fun h => (bf h h7).elim, fun _ => rfl, fun h => (bf h h5).elim, fun h => (bf h h6).elim, fun h => (bf h h7).elim, J.o60⟩
theorem JnJ.st4 (J : JnJ W B n Bx qs lr jv lv rv L v w) (h3 : L 3 = true) (h4 : L 4 = false) {w' : World} (f : Fr w w') {x : Value} (hx : w'.ownsRow W.heap.size 56 3 x lr.length (flat cdV lr)) : JnJ W B n Bx qs lr jv lv rv (updL L 4) (upd v 4 x) w' := by
 obtain ⟨h5, h6, h7⟩ := (J.low (k := 3)).2.1 h4
 obtain ⟨a, c, rfl⟩ := own_slice hx
 exact ⟨fun _ => (J.fr h6).trans f, J.m0, J.m1, J.m2, fun _ h => (by cases h), fun _ _ => ⟨⟨a, _, c⟩, rfl, hx⟩, fun h => (bf h h5).elim, fun h => (bf h h6).elim, fun h => (bf h h7).elim, fun _ => h3, fun h => (bf h h5).elim, fun h => (bf h h6).elim, fun h => (bf h h7).elim, J.o60⟩
theorem JnJ.st5 (J : JnJ W B n Bx qs lr jv lv rv L v w) (h4 : L 4 = true) (h5 : L 5 = false) {q : Sq} (hq : v 4 = q.v) (ho : w.ownsRow W.heap.size 56 3 q.v lr.length (flat cdV lr)) : JnJ W B n Bx qs lr jv lv rv (updL L 5) (upd v 5 (.slice (some ⟨w.heap.size, 0, none⟩) 1 1)) (w.alloc (.cells #[q.v] 31)) := by
 obtain ⟨h6, h7⟩ := (J.low (k := 3)).2.2.1 h5
 exact ⟨fun _ => (J.fr h6).alloc _, J.m0, J.m1, J.m2, fun h h' => (bf h4 h').elim, fun _ h => (by cases h), fun _ _ => ⟨q, w.heap.size, rfl, Blk.new w _ _, own_fr ho ((Fr.refl w).alloc _)⟩, fun h => (bf h h6).elim, fun h => (bf h h7).elim, J.o43, fun _ => h4, fun h => (bf h h6).elim, fun h => (bf h h7).elim, J.o60⟩
theorem JnJ.st6 (J : JnJ W B n Bx qs lr jv lv rv L v w) (h0 : L 0 = true) (h5 : L 5 = true) (h6 : L 6 = false) {x : Value} {w' : World} (hx : JnAft W B n qs lr jv w' x) : JnJ W B n Bx qs lr jv lv rv (updL L 6) (upd v 6 x) w' := by
 have h7 := (J.low (k := 3)).2.2.2 h6
 have h4 := J.o54 h5
 exact ⟨fun h => (by cases h), J.m0, J.m1, J.m2, fun _ h' => (bf h4 h').elim, fun _ h => (bf h5 h).elim, fun _ h => (by cases h), fun _ _ => hx, fun h => (bf h h7).elim, J.o43, J.o54, fun _ => h5, fun h => (bf h h7).elim, fun _ => h0⟩
theorem JnJ.st7 (J : JnJ W B n Bx qs lr jv lv rv L v w) (h6 : L 6 = true) (h7 : L 7 = false) : JnJ W B n Bx qs lr jv lv rv (updL L 7) (upd v 7 undef) (w.setCell ⟨Bx, 0, none⟩ (v 6)) := by
 have h5 := J.o65 h6
 have h4 := J.o54 h5
 exact ⟨fun h => (bf h6 h).elim, J.m0, J.m1, J.m2, fun _ h' => (bf h4 h').elim, fun _ h => (bf h5 h).elim, fun _ h => (bf h6 h).elim, fun _ h => (by cases h), fun _ => ⟨w, v 6, J.a6 h6 h7, rfl⟩, J.o43, J.o54, J.o65, fun _ => h6, J.o60⟩
end
theorem isRR_two {w : World} {g : Nat} {a b : Sq} {la lb : List VM.Vl} (hb : Blk w g #[a.v, b.v] 31) (ha : IsL cdV w a.v la) (hbb : IsL cdV w b.v lb) : IsRR w (.slice (some ⟨g, 0, none⟩) 2 2) [la, lb] := by
 refine ⟨[a, b], ⟨_, 2, rfl, Nat.le_refl _, .inr ⟨g, 0, rfl, hb.lt, fun j u hj => ?_⟩⟩, rfl, fun i h1 h2 => ?_⟩
 ·
  rw [Nat.zero_add]
  refine hb.cell j ?_
  match j, hj with
  | 0, hj => simpa [flat, cdS, Sq.v] using hj
  | 1, hj => simpa [flat, cdS, Sq.v] using hj
 ·
  match i, h1 with
  | 0, _ => exact ha
  | 1, _ => exact hbb
theorem isL_one_s {w : World} {g : Nat} {q : Sq} (hb : Blk w g #[q.v] 31) : IsL cdS w (.slice (some ⟨g, 0, none⟩) 1 1) [q] := by
 refine ⟨_, 1, rfl, Nat.le_refl _, .inr ⟨g, 0, rfl, hb.lt, fun j u hj => ?_⟩⟩
 rw [Nat.zero_add]
 refine hb.cell j ?_
 match j, hj with
 | 0, hj => simpa [flat, cdS, Sq.v] using hj
def catR {w0 : World} (x : R2 w0) : List VM.Vl := x.1.1.2 ++ x.2.1.2
theorem catR_all {w0 : World} (xs ys_ : List (Rp w0)) : (allp xs ys_).map catR = BM.join (lns xs) (lns ys_) := by
 unfold allp BM.join BM.pairs lns wth
 rw [List.map_flatMap, List.flatMap_map]
 congr 1
 funext x
 rw [List.map_map, List.map_map]
 rfl
theorem orr_keepN {B : Nat} {w w' : World} {v : Value} {ls : List (List VM.Vl)} {row : Option Nat} (h : ORR B w v ls) (g : w.grownBy w' row) (hr : ∀ r, row = some r → ∃ o : Obj, w.heap[r]? = some o ∧ o.isCells = false) : ORR B w' v ls := by
 have key : ∀ {T sz : Nat} {v : Value} {n : Nat} {xs : List Value}, w.ownsRow B T sz v n xs → w'.ownsRow B T sz v n xs := fun h => own_keep h fun k cur hk hc => g.block k (Array.getElem?_eq_some_iff.1 hc).1 (by
  intro e
  obtain ⟨o, ho, hn⟩ := hr k e.symm
  rw [hc] at ho
  cases ho
  cases hn)
 obtain ⟨qs, h1, h2, h3⟩ := h
 exact ⟨qs, key h1, h2, fun i a b => key (h3 i a b)⟩
theorem blk_own {A B : World} {row : Option Nat} {b : Nat} {arr : Array Value} {T : TypeId} (h : Blk A b arr T) (hg : A.grownBy B row) (hr : ∀ r, row = some r → ∃ o : Obj, A.heap[r]? = some o ∧ o.isCells = false) : Blk B b arr T := by
 refine h.grown hg ?_
 intro e
 obtain ⟨o, ho, hc⟩ := hr b e
 have := ho.symm.trans h
 simp only [Option.some.injEq] at this
 subst this
 cases hc
structure JnI (w : World) (Bx : Nat) (va vb : Value) (ls : List (List VM.Vl)) (W : World) : Prop where
 bx : ∃ u, Blk W Bx #[u] 22 ∧ ORR w.heap.size W u ls
 a : Blk W (Bx + 1) #[va] 22
 b : Blk W (Bx + 1 + 1) #[vb] 22
 fr : Fr w W
 base : w.heap.size ≤ Bx
theorem JnI.own {w : World} {Bx : Nat} {va vb : Value} {ls : List (List VM.Vl)} {W W' : World} {row : Option Nat} {B : Nat} (h : JnI w Bx va vb ls W) (hB : w.heap.size ≤ B) (hg : W.grownBy W' row) (hr : ∀ r, row = some r → B ≤ r ∧ ∃ o : Obj, W.heap[r]? = some o ∧ o.isCells = false) : JnI w Bx va vb ls W' :=
 ⟨by obtain ⟨u, h1, h2⟩ := h.bx; exact ⟨u, blk_own h1 hg (fun r e => (hr r e).2), orr_keepN h2 hg (fun r e => (hr r e).2)⟩, blk_own h.a hg (fun r e => (hr r e).2), blk_own h.b hg (fun r e => (hr r e).2), Below.grown h.fr hg h.fr.size (fun k e => by have := (hr k e).1; omega), h.base⟩
theorem JnAft.box {W : World} {B n : Nat} {qs : List Sq} {lr : List VM.Vl} {jv : Value} {w : World} {u : Value} {Bx : Nat} (hA : JnAft W B n qs lr jv w u) (hu : Blk W Bx #[jv] 22) (ho : W.ownsRow B 31 1 jv n (flat cdS qs)) : Blk w Bx #[jv] 22 := by
 obtain ⟨q, W5, f5, hq5, hg, ho6⟩ := hA
 refine (hu.fr f5).grown hg ?_
 intro e
 obtain ⟨cur, hc⟩ := own_block (own_fr ho f5) Bx e
 have hb5 := hu.fr f5
 unfold Blk at hb5
 rw [hb5] at hc
 simp only [Option.some.injEq, Obj.cells.injEq] at hc
 exact absurd hc.2.1 (by decide)
theorem JnI.next {w : World} {Bx : Nat} {va vb : Value} {ls : List (List VM.Vl)} {W w6 : World} {u u' : Value} {qs : List Sq} {lr : List VM.Vl} (h : JnI w Bx va vb ls W) (hu : Blk W Bx #[u] 22) (ho : W.ownsRow w.heap.size 31 1 u ls.length (flat cdS qs)) (hq : qs.length = ls.length) (hall : ∀ i (h1 : i < qs.length) (h2 : i < ls.length), W.ownsRow w.heap.size 56 3 qs[i].v ls[i].length (flat cdV ls[i]))
  (hA : JnAft W w.heap.size ls.length qs lr u w6 u') :
  JnI w Bx va vb (ls ++ [lr]) (w6.setCell ⟨Bx, 0, none⟩ u') ∧ KeepsOthers W (w6.setCell ⟨Bx, 0, none⟩ u') ∧ K2 w.heap.size (Bx + 1) (Bx + 1 + 1) W (w6.setCell ⟨Bx, 0, none⟩ u') := by
 obtain ⟨q, W5, f5, hq5, hg, ho6⟩ := hA
 have hst := own_block (own_fr ho f5)
 have other : ∀ {b : Nat} {x : Value}, Blk W b #[x] 22 → Blk w6 b #[x] 22 := fun {b x} hb => (hb.fr f5).grown hg (by
  intro e
  obtain ⟨cur, hc⟩ := hst b e
  have hb5 := hb.fr f5
  unfold Blk at hb5
  rw [hb5] at hc
  simp only [Option.some.injEq, Obj.cells.injEq] at hc
  exact absurd hc.2.1 (by decide))
 have hx6 := other hu
 have ha6 := other h.a
 have hb6 := other h.b
 have hso := ORR.snoc (own_fr ho f5) hq (fun i a b => own_fr (hall i a b) f5) (own_low hq5 h.fr.size) ho6 hg
 have key : ∀ {T sz n : Nat} {v : Value} {xs : List Value}, T ≠ 22 → w6.ownsRow w.heap.size T sz v n xs → (w6.setCell ⟨Bx, 0, none⟩ u').ownsRow w.heap.size T sz v n xs := fun hT ho => own_keep ho fun k cur hk hkc => by
  have hne : Bx ≠ k := by
   rintro rfl
   unfold Blk at hx6
   rw [hx6] at hkc
   simp only [Option.some.injEq, Obj.cells.injEq] at hkc
   exact hT hkc.2.1.symm
  simp only [World.setCell, Array.getElem?_modify, if_neg hne]
 have hown : ORR w.heap.size (w6.setCell ⟨Bx, 0, none⟩ u') u' (ls ++ [lr]) := by
  obtain ⟨rs, r1, r2, r3⟩ := hso
  exact ⟨rs, key (by decide) r1, r2, fun i a b => key (by decide) (r3 i a b)⟩
 have hF6 : Fr w w6 := Below.grown (Fr.trans h.fr f5) hg (Fr.size (Fr.trans h.fr f5)) (fun k e => own_base ho k e)
 have hset := (hx6.set 0 u')
 have hset2 : Blk (w6.setCell ⟨Bx, 0, none⟩ u') Bx #[u'] 22 := by simpa using hset
 have ha7 := ha6.other (b' := Bx) (by omega) 0 u'
 have hb7 := hb6.other (b' := Bx) (by omega) 0 u'
 refine ⟨⟨⟨u', hset2, hown⟩, ha7, hb7, hF6.setC Bx 0 u' h.base, h.base⟩, ?_, ?_⟩
 ·
  refine ⟨Nat.le_trans f5.size (Nat.le_trans hg.size (by simp [World.setCell])), fun k o hk hn => ?_⟩
  have h5 : W5.heap[k]? = some o := (f5.block k (Array.getElem?_eq_some_iff.1 hk).1).trans hk
  have h6 : w6.heap[k]? = some o := (hg.block k (Array.getElem?_eq_some_iff.1 h5).1 (by
   intro e
   obtain ⟨cur, hc⟩ := hst k e.symm
   rw [h5] at hc
   cases hc
   cases hn)).trans h5
  exact (KeepsOthers.setCell w6 _ _).same k o h6 hn
 ·
  have hbl : Below w.heap.size W (w6.setCell ⟨Bx, 0, none⟩ u') := by
   have h5 : Below w.heap.size W W5 := Below.mono f5 h.fr.size
   have h6 : Below w.heap.size W w6 := h5.grown hg (Nat.le_trans h.fr.size f5.size) (fun k e => own_base ho k e)
   exact h6.setCell (by show w.heap.size ≤ Bx; exact h.base) _
  exact ⟨hbl, ha7.trans h.a.symm, hb7.trans h.b.symm⟩
end Go.Proofs.YtbcfdhimngoplaaGreatDoor
namespace Go.Proofs.YtbcfdhimngoplaaGreatDoor
open Go.ChangeShapes Go.WideShapes Go.ChangeAt Go.RowKit Go.Shelf
set_option linter.unusedVariables false
set_option linter.unusedSimpArgs false
set_option maxRecDepth 100000
attribute [local go_sem] Oper.semAt_some
set_option maxHeartbeats 1000000 in
theorem join_in (n : Nat) (hn : 3 ≤ n) (va vb : Value) (al bl : List (List VM.Vl)) (w : World) (ha : IsRR w va al) (hb : IsRR w vb bl) (ca : BG.chk al = 0) (cb : BG.chk bl = 0) (hw : BG.wd al + BG.wd bl ≤ 8) (hm : al.length * bl.length ≤ 40) :
  CallsIn Fence.wide n Tryz.prog 21 #[va, vb] w fun e w' => ∃ u, e = .returned (.tuple #[u, .int .i64 0]) ∧ ORR w.heap.size w' u (BM.join al bl) ∧ Fr w w' := by
 have h1 : 1 ≤ n := by omega
 obtain ⟨a40, aall⟩ := BG.chk_all ca
 obtain ⟨b40, ball⟩ := BG.chk_all cb
 have HCa := hideP (fun W (f : Fr w W) => bagCheck_any va al W (ha.fr f) (by omega) (fun r hr => by have := (aall r hr).1; omega))
 have HCb := hideP (fun W (f : Fr w W) => bagCheck_any vb bl W (hb.fr f) (by omega) (fun r hr => by have := (ball r hr).1; omega))
 rw [ca] at HCa
 rw [cb] at HCb
 have HWa := hideP (fun W (f : Fr w W) => width_any va al W (ha.fr f))
 have HWb := hideP (fun W (f : Fr w W) => width_any vb bl W (hb.fr f))
 obtain ⟨qa, hqa, hqan, hqas⟩ := ha
 obtain ⟨qb, hqb, hqbn, hqbs⟩ := hb
 obtain ⟨xs, hxs1, hxs2⟩ := rps_of (w := w) qa al hqan (fun i h1 h2 => hqas i h1 h2) (fun r hr => (aall r hr).1)
 obtain ⟨ys, hys1, hys2⟩ := rps_of (w := w) qb bl hqbn (fun i h1 h2 => hqbs i h1 h2) (fun r hr => (ball r hr).1)
 have hla : xs.length = al.length := by rw [← hxs2]; simp [lns]
 have hlb : ys.length = bl.length := by rw [← hys2]; simp [lns]
 rw [← hxs1] at hqa
 rw [← hys1] at hqb
 rw [← hxs2, ← hys2]
 obtain ⟨aa, ac, ea, hac, has⟩ := hqa
 obtain ⟨ba, bc, eb, hbc, hbs⟩ := hqb
 rw [sqs_len] at ea eb
 subst ea eb
 have HIa := hideP (show IsL cdS w (.slice aa xs.length ac) (sqs xs) from ⟨aa, ac, by rw [sqs_len], hac, has⟩)
 have HIb := hideP (show IsL cdS w (.slice ba ys.length bc) (sqs ys) from ⟨ba, bc, by rw [sqs_len], hbc, hbs⟩)
 have HAll := hideP (catR_all xs ys)
 have hm2 : xs.length * ys.length ≤ 40 := by rw [hla, hlb]; exact hm
 have hxl : xs.length ≤ 40 := by omega
 have hyl : ys.length ≤ 40 := by omega
 have hmZ : (xs.length : Int) * (ys.length : Int) ≤ 40 := by exact_mod_cast hm2
 have hmZ0 : 0 ≤ (xs.length : Int) * (ys.length : Int) := Int.mul_nonneg (by omega) (by omega)
 obtain ⟨m9, hm9⟩ : ∃ m : Int, (xs.length : Int) * (ys.length : Int) = m := ⟨_, rfl⟩
 rw [hm9] at hmZ hmZ0
 generalize BG.wd al = wa at *
 generalize BG.wd bl = wb at *
 clear aall ball hqas hqbs hxs1 hys1 hxs2 hys2 hac has hbc hbs hla hlb hm hqan hqbn a40 b40 ca cb
 obtain ⟨i0, hi0, hz0, hz1, hz2⟩ := info_parts Tryz.infoVs9
 have hwZ : ¬ (8 : Int) < (wa : Int) + (wb : Int) := by omega
 have hmZ' : ¬ (40 : Int) < m9 := by omega
 refine callsIn_of_wp_marks Tryz.func21 rfl trivial ?_ rfl
 simp only [Tryz.ntmps21, List.size_toArray, List.length_cons, List.length_nil, Nat.reduceAdd, Nat.reduceSub, Array.replicate_succ, Array.replicate_zero, List.push_toArray, List.append_toArray, List.nil_append, List.cons_append]
 gi_wp2_with fail
 refine ⟨trivial, ?_⟩
 refine (callsIn_wide.2 (HCa.out _ (Fr.refl w))).mono ?_
 rintro _ w1 ⟨rfl, f1⟩
 have F1 := hideP f1
 clear f1
 gi_wp2_with fail
 refine ⟨trivial, ?_⟩
 refine (callsIn_wide.2 (HCb.out _ F1.out)).mono ?_
 rintro _ w2 ⟨rfl, f2⟩
 have F2 := hideP (F1.out.trans f2)
 clear f2
 gi_wp2_with fail
 refine ⟨trivial, ?_⟩
 refine (callsIn_wide.2 (HWa.out _ F2.out)).mono ?_
 rintro _ wq ⟨rfl, rfl⟩
 gi_wp2_with fail
 refine ⟨trivial, ?_⟩
 refine (callsIn_wide.2 (HWb.out _ F2.out)).mono ?_
 rintro _ w2 ⟨rfl, rfl⟩
 have hB := F2.out.size
 have HO := hideP (Blk.new w2 #[.slice none 0 0] 22)
 have HF3 := hideP (F2.out.alloc (.cells #[.slice none 0 0] 22))
 gi_wp2_with fail
 refine ⟨trivial, ?_⟩
 refine (callsIn_wide.2 (pairs_any _ _ _ ⟨_, _, _, rfl⟩ ⟨_, _, _, rfl⟩)).mono ?_
 rintro _ w3 ⟨rfl, hw3⟩
 subst hw3
 gi_wp2_with fail
 have a0 := Blk.new ((w2.alloc (.cells #[.slice none 0 0] 22))) #[.slice aa xs.length ac] 22
 have b0 := Blk.new ((w2.alloc (.cells #[.slice none 0 0] 22)).alloc (.cells #[.slice aa xs.length ac] 22)) #[.slice ba ys.length bc] 22
 rw [World.size_alloc] at a0
 rw [World.size_alloc, World.size_alloc] at b0
 have HI0 := hideP (show JnI w w2.heap.size (.slice aa xs.length ac) (.slice ba ys.length bc) [] _ from
  ⟨⟨_, (HO.out.old (.cells #[.slice aa xs.length ac] 22)).old (.cells #[.slice ba ys.length bc] 22), ORR.nil _ _⟩, a0.old _, b0, (HF3.out.alloc _).alloc _, hB⟩)
 generalize hW3 : ((w2.alloc (.cells #[.slice none 0 0] 22)).alloc (.cells #[.slice aa xs.length ac] 22)).alloc (.cells #[.slice ba ys.length bc] 22) = W3 at *
 have hs3 : W3.heap.size = w2.heap.size + 1 + 1 + 1 := by rw [← hW3]; simp
 have hFW3 : Fr w W3 := HI0.out.fr
 have hca := HI0.out.a.cell 0 (u := .slice aa xs.length ac) rfl
 have hcb := HI0.out.b.cell 0 (u := .slice ba ys.length bc) rfl
 have HAllL := hideP (show (allp xs ys).length ≤ 40 by rw [allp_len]; exact hm2)
 refine wpIn_rangeFunc_ownG rfl h1 (gf := 67) (lb := #[.pointer (some ⟨w2.heap.size + 1, 0, none⟩), .pointer (some ⟨w2.heap.size + 1 + 1, 0, none⟩)]) rfl trivial (enters_of Tryz.func67 (by kernel_rfl) rfl)
  (pairs_stops (n - 1) (by omega) (w2.heap.size + 1) (w2.heap.size + 1 + 1) w.heap.size (.slice aa xs.length ac) (.slice ba ys.length bc) w xs ys (by omega) (by omega) W3 hFW3.size hFW3 rfl hca hcb HIa.out HIb.out) k2_t (k2_b (w := W3) hFW3.size (by omega) (by omega)) (Below.refl _ _) (fun _ => rfl)
  (fun pre W => JnI w w2.heap.size (.slice aa xs.length ac) (.slice ba ys.length bc) (pre.map catR) W) (fun _ _ _ => False)
  (fun s A B row hs hg hr => hs.own hFW3.size hg hr)
  (fun _ _ _ _ _ hs _ _ => hs)
  HI0.out
  (fun x => { tmps := #[.slice aa xs.length ac, .slice ba ys.length bc, undef, undef, .slice none 0 0, .int .i64 0, .int .i64 0, .int .i64 0, .pointer (some ⟨w2.heap.size, 0, none⟩), .slice x.1.1.1.a x.1.1.1.n x.1.1.1.c, .slice x.2.1.1.a x.2.1.1.n x.2.1.1.c, .slice aa xs.length ac, .int .i64 0, .int .i64 0, .bool false, undef, .slice ba ys.length bc, .int .i64 0, .int .i64 0, .bool false, undef, .slice aa xs.length ac, .int .i64 (wa : Int), .slice ba ys.length bc, .int .i64 (wb : Int), .int .i64 ((wa : Int) + (wb : Int)), .bool (decide ((8 : Int) < (wa : Int) + (wb : Int))), .bool (decide ((8 : Int) < (wa : Int) + (wb : Int))), .slice aa xs.length ac, .int .i64 (xs.length : Int), .slice ba ys.length bc, .int .i64 (ys.length : Int), .int .i64 m9, .bool (decide ((40 : Int) < m9)), .bool (decide ((8 : Int) < (wa : Int) + (wb : Int)) || decide ((40 : Int) < m9)), .slice aa xs.length ac, .slice ba ys.length bc, .func (.func 67) #[] #[.pointer (some ⟨w2.heap.size + 1, 0, none⟩), .pointer (some ⟨w2.heap.size + 1 + 1, 0, none⟩)], .slice x.1.1.1.a x.1.1.1.n x.1.1.1.c, .slice x.2.1.1.a x.2.1.1.n x.2.1.1.c, undef, undef, undef, undef, undef, undef, undef, undef], defers := [] })
  ?assign ?body ?done ?stop
 case assign =>
  rintro l ⟨⟨⟨⟨xa, xn, xc⟩, xl⟩, hx⟩, ⟨⟨⟨ya, yn, yc⟩, yl⟩, hy⟩⟩ W K hK
  simp only [rpV]
  gi_wp2_with fail
  exact hK
 case body =>
  rintro l pre ⟨⟨⟨⟨xa, xn, xc⟩, xl⟩, hx⟩, ⟨⟨⟨ya, yn, yc⟩, yl⟩, hy⟩⟩ W hI hlt
  obtain ⟨u, hu, hor⟩ := hI.bx
  obtain ⟨ua, uc, rfl⟩ := hor.slice
  obtain ⟨qs, ho, hq, hall⟩ := hor
  have hpl : (pre.map (catR (w0 := w))).length = pre.length := by rw [List.length_map]
  have HM1 := hideP (show (pre.map (catR (w0 := w))).length + 1 ≤ maxLen by rw [hpl]; unfold maxLen; omega)
  have HM2 := hideP (show ((pre.map (catR (w0 := w))).length + 1) * 24 ≤ 140737488355328 by rw [hpl]; omega)
  have hx8 : xl.length ≤ 8 := hx.2
  have hy8 : yl.length ≤ 8 := hy.2
  refine wpIn_block ?_
  refine region_inv2_in rfl ?rhnd (fun listed v w9 => JnJ W w.heap.size (pre.map (catR (w0 := w))).length w2.heap.size qs (xl ++ yl) (.slice ua (pre.map (catR (w0 := w))).length uc) (.slice xa xn xc) (.slice ya yn yc) (fun i => listed.getD i false) v w9) ?rh0 (by decide) ?rstep ?rdone
  case rhnd =>
   intro i o ho9 c hc
   have hi : i < 8 := by have := (Array.getElem?_eq_some_iff.1 ho9).1; simpa using this
   rcases (show i = 0 ∨ i = 1 ∨ i = 2 ∨ i = 3 ∨ i = 4 ∨ i = 5 ∨ i = 6 ∨ i = 7 by omega) with rfl | rfl | rfl | rfl | rfl | rfl | rfl | rfl
   all_goals (have e := Option.some.inj ho9; rw [← e] at hc; cases hc)
  case rh0 =>
   constructor
   · exact fun _ => Fr.drew (Fr.refl W)
   all_goals (intro h; exact absurd h (by decide))
  case rstep =>
   intro listed v w9 A hs J HA HO i hi
   have hi1 := (ready_spec hi).1
   have hlt2 : i < listed.size := by rw [hs]; exact hi1
   have hno := not_yet hs hi
   have hiN : i < 8 := hi1
   rcases (show i = 0 ∨ i = 1 ∨ i = 2 ∨ i = 3 ∨ i = 4 ∨ i = 5 ∨ i = 6 ∨ i = 7 by omega) with rfl | rfl | rfl | rfl | rfl | rfl | rfl | rfl
   ·
    have hb := hu.fr (J.fr (bne fun h => bf (J.o60 h) hno))
    refine wpOp_load rfl (y := .slice ua (pre.map (catR (w0 := w))).length uc) (w' := w9) ?_ ⟨_, rfl, by rw [toL hlt2]; exact J.st0⟩
    rw [HO 8 (by decide)]
    have m0 := hb.cell 0 (u := .slice ua (pre.map (catR (w0 := w))).length uc) rfl
    simp [go_sem, m0]
   · exact wpOp_move rfl (y := .slice xa xn xc) (HO 9 (by decide)) ⟨_, rfl, by rw [toL hlt2]; exact J.st1⟩
   · exact wpOp_move rfl (y := .slice ya yn yc) (HO 10 (by decide)) ⟨_, rfl, by rw [toL hlt2]; exact J.st2⟩
   ·
    have h1 := after_one hi rfl 1 (by decide)
    have h2 := after_one hi rfl 2 (by decide)
    have e1 := (HA 1 41 rfl (by show 41 < 48; decide) h1).trans (J.m1 h1)
    have e2 := (HA 2 42 rfl (by show 42 < 48; decide) h2).trans (J.m2 h2)
    refine wpOp_slice rfl (y := .slice (some ⟨w9.heap.size, 0, none⟩) 2 2) (w' := w9.alloc (.cells #[.slice xa xn xc, .slice ya yn yc] 31)) ?_ ⟨_, rfl, by rw [toL hlt2]; exact J.st3 hno⟩
    simp only [List.map_toArray, List.map_cons, List.map_nil, e1, e2]
    kernel_rfl
   ·
    have h3 := after_one hi rfl 3 (by decide)
    obtain ⟨h5, h6, h7⟩ := (J.low (k := 3)).2.1 hno
    obtain ⟨g, hv, hb⟩ := J.b3 h3 hno
    have e3 := (HA 3 43 rfl (by show 43 < 48; decide) h3).trans hv
    have fW := J.fr h6
    have hc := concatV_any (.slice (some ⟨g, 0, none⟩) 2 2) [xl, yl] w9 (isRR_two (a := ⟨xa, xn, xc⟩) (b := ⟨ya, yn, yc⟩) hb ((hx.1.fr hI.fr).fr fW) ((hy.1.fr hI.fr).fr fW)) (by simp) (by simp [BG.tot, BG.sm]; omega)
    refine wpOp_call rfl (args := #[.slice (some ⟨g, 0, none⟩) 2 2]) ?_ (by kernel_rfl) hc ?_
    · simp only [List.map_toArray, List.map_cons, List.map_nil, e3]
    ·
     rintro e w9' ⟨x, rfl, hown, f2⟩
     have h9 := hown
     simp only [List.flatten_cons, List.flatten_nil, List.append_nil] at h9
     exact ⟨_, rfl, _, rfl, by rw [toL hlt2]; exact J.st4 h3 hno f2 (own_low h9 fW.size)⟩
   ·
    have h4 := after_one hi rfl 4 (by decide)
    obtain ⟨⟨qa, qn, qc⟩, hv, hoq⟩ := J.a4 h4 hno
    have e4 := (HA 4 44 rfl (by show 44 < 48; decide) h4).trans hv
    simp only [Sq.v] at e4
    refine wpOp_slice rfl (y := .slice (some ⟨w9.heap.size, 0, none⟩) 1 1) (w' := w9.alloc (.cells #[.slice qa qn qc] 31)) ?_ ⟨_, rfl, by rw [toL hlt2]; exact J.st5 h4 hno hv hoq⟩
    simp only [List.map_toArray, List.map_cons, List.map_nil, e4]
    kernel_rfl
   ·
    have h0 := after_one hi rfl 0 (by decide)
    have h5 := after_one hi rfl 5 (by decide)
    obtain ⟨q, g, hv, hb, hoq⟩ := J.b5 h5 hno
    have e0 := (HA 0 40 rfl (by show 40 < 48; decide) h0).trans (J.m0 h0)
    have e5 := (HA 5 45 rfl (by show 45 < 48; decide) h5).trans hv
    refine wpOp_of rfl rfl (wp_append_L cdS _ _ 22 31 i0 _ 24 rfl Tryz.underlying22 hi0 hz0 hz1 hz2 rfl w.heap.size _ (pre.map (catR (w0 := w))).length qs e0 (own_fr ho (J.fr hno)) _ [q] e5 (isL_one_s hb) HM1.out HM2.out (Nat.le_trans hI.fr.size (J.fr hno).size) ?_)
    intro x w' own gr
    exact ⟨x, rfl, by rw [toL hlt2]; exact J.st6 h0 h5 hno ⟨q, w9, J.fr hno, hoq, gr, own⟩⟩
   ·
    have h6 := after_one hi rfl 6 (by decide)
    have hA := J.a6 h6 hno
    have hb := hA.box hu ho
    have e6 := HA 6 46 rfl (by show 46 < 48; decide) h6
    have m0 := hb.cell 0 (u := .slice ua (pre.map (catR (w0 := w))).length uc) rfl
    have f0 := hb.frozen 0
    obtain ⟨q, W5, f5, hq5, hg, ho6⟩ := hA
    obtain ⟨va, vc, ev⟩ := own_slice ho6
    refine wpOp_store rfl (w' := w9.setCell ⟨w2.heap.size, 0, none⟩ (v 6)) ?_ ⟨_, rfl, by rw [toL hlt2]; exact J.st7 h6 hno⟩
    rw [HO 8 (by decide), e6, ev]
    simp [go_sem, m0, f0]
  case rdone =>
   intro listed v w9 hs J hr
   have al := all_done hs hr (by decide)
   obtain ⟨w6, u', hA, rfl⟩ := J.a7 (al 7 (by decide))
   obtain ⟨n1, n2, n3⟩ := hI.next hu ho hq hall hA
   refine ⟨n2.from _, n3, ?_⟩
   show JnI _ _ _ _ (List.map catR (pre ++ _)) _
   rw [List.map_append]
   exact n1
 case done =>
  rintro D ys9 W hD rfl hI hK
  obtain ⟨u, hu, hor⟩ := hI.bx
  rw [HAll.out] at hor
  have hc := hu.cell 0 (u := u) rfl
  have hfr := hI.fr
  have hsz3 := hFW3.size
  gi_wp2
  refine ⟨by simp, .inl ⟨_, _, rfl, run_takeDeferred hK, ?_⟩⟩
  refine ⟨.tuple #[u, .int .i64 0], ?_, u, rfl, orr_keepN hor (grownBy_putObj' W D _) (fun r e => by cases e; exact ⟨_, hK, rfl⟩), Below.trans hfr (belowK_b (w := w) (Nat.le_refl _) W D _ _ (by omega) hK rfl rfl)⟩
  simp [results, Tryz.results21, go_sem]
 case stop =>
  rintro D c pre W _ _ h _
  exact h.elim
end Go.Proofs.YtbcfdhimngoplaaGreatDoor
namespace Go.Proofs.YtbcfdhimngoplaaGreatDoor
open Go.ChangeShapes Go.WideShapes Go.ChangeAt Go.RowKit Go.Shelf
set_option linter.unusedVariables false
set_option linter.unusedSimpArgs false
set_option maxRecDepth 100000
set_option maxHeartbeats 1000000
theorem join_any (va vb : Value) (al bl : List (List VM.Vl)) (w : World) (ha : IsRR w va al) (hb : IsRR w vb bl) (hla : al.length ≤ 9223372036854775806) (hra : ∀ r ∈ al, r.length ≤ 9223372036854775806) (hlb : bl.length ≤ 9223372036854775806) (hrb : ∀ r ∈ bl, r.length ≤ 9223372036854775806) :
  Calls Tryz.prog 21 #[va, vb] w fun r w' => RA w.heap.size (BG.jn al bl) r w' ∧ Fr w w' := by
 have HCa := hideP (fun W (f : Fr w W) => bagCheck_any va al W (ha.fr f) hla hra)
 have HCb := hideP (fun W (f : Fr w W) => bagCheck_any vb bl W (hb.fr f) hlb hrb)
 have HWa := hideP (fun W (f : Fr w W) => width_any va al W (ha.fr f))
 have HWb := hideP (fun W (f : Fr w W) => width_any vb bl W (hb.fr f))
 by_cases ca : BG.chk al = 0
 case neg =>
  have HJ := hideP (show BG.jn al bl = .error (BG.chk al) by unfold BG.jn; rw [if_pos ca])
  obtain ⟨aa, ac, rfl⟩ := ha.slice
  obtain ⟨ba, bc, rfl⟩ := hb.slice
  rw [HJ.out]
  clear HJ HWa HWb HCb ha hb hra hrb
  generalize BG.chk al = z at *
  have g1 : ((z : Int) != 0) = true := by simp; omega
  have g2 : ¬ ((z : Int) = 0) := by omega
  refine (callsIn_wide (n := 3)).1 ?_
  refine callsIn_of_wp_marks Tryz.func21 rfl trivial ?_ rfl
  simp only [Tryz.ntmps21, List.size_toArray, List.length_cons, List.length_nil, Nat.reduceAdd, Nat.reduceSub, Array.replicate_succ, Array.replicate_zero, List.push_toArray, List.append_toArray, List.nil_append, List.cons_append]
  gi_wp2_with fail
  refine ⟨trivial, ?_⟩
  refine (callsIn_wide.2 (HCa.out _ (Fr.refl w))).mono ?_
  rintro _ w1 ⟨rfl, f1⟩
  have F1 := hideP f1
  clear f1
  gi_wp2_with fail
  refine ⟨.tuple #[.slice none 0 0, .int .i64 (z : Int)], ?_, rfl, F1.out⟩
  simp [results, Tryz.results21, go_sem]
 rw [ca] at HCa
 by_cases cb : BG.chk bl = 0
 case neg =>
  have HJ := hideP (show BG.jn al bl = .error (BG.chk bl) by unfold BG.jn; rw [if_neg (by simp [ca]), if_pos cb])
  obtain ⟨aa, ac, rfl⟩ := ha.slice
  obtain ⟨ba, bc, rfl⟩ := hb.slice
  rw [HJ.out]
  clear HJ HWa HWb ha hb hra hrb ca
  generalize BG.chk bl = z at *
  have g1 : ((z : Int) != 0) = true := by simp; omega
  have g2 : ¬ ((z : Int) = 0) := by omega
  refine (callsIn_wide (n := 3)).1 ?_
  refine callsIn_of_wp_marks Tryz.func21 rfl trivial ?_ rfl
  simp only [Tryz.ntmps21, List.size_toArray, List.length_cons, List.length_nil, Nat.reduceAdd, Nat.reduceSub, Array.replicate_succ, Array.replicate_zero, List.push_toArray, List.append_toArray, List.nil_append, List.cons_append]
  gi_wp2_with fail
  refine ⟨trivial, ?_⟩
  refine (callsIn_wide.2 (HCa.out _ (Fr.refl w))).mono ?_
  rintro _ w1 ⟨rfl, f1⟩
  have F1 := hideP f1
  clear f1
  gi_wp2_with fail
  refine ⟨trivial, ?_⟩
  refine (callsIn_wide.2 (HCb.out _ F1.out)).mono ?_
  rintro _ w2 ⟨rfl, f2⟩
  have F2 := hideP (F1.out.trans f2)
  clear f2
  gi_wp2_with fail
  refine ⟨.tuple #[.slice none 0 0, .int .i64 (z : Int)], ?_, rfl, F2.out⟩
  simp [results, Tryz.results21, go_sem]
 rw [cb] at HCb
 by_cases hw : 8 < BG.wd al + BG.wd bl ∨ 40 < al.length * bl.length
 case neg =>
  have hj : BG.jn al bl = .ok (BM.join al bl) := by unfold BG.jn; rw [if_neg (by simp [ca]), if_neg (by simp [cb]), if_neg hw]
  rw [hj]
  exact Calls.mono (callsIn_wide.1 (join_in 3 (Nat.le_refl _) va vb al bl w ha hb ca cb (by omega) (by omega))) fun e w' ⟨u, h1, h2, h3⟩ => ⟨⟨u, h1, h2⟩, h3⟩
 have HJ := hideP (show BG.jn al bl = .error 2 by unfold BG.jn; rw [if_neg (by simp [ca]), if_neg (by simp [cb]), if_pos hw])
 have a40 := (BG.chk_all ca).1
 have b40 := (BG.chk_all cb).1
 obtain ⟨aa, ac, rfl⟩ := ha.slice
 obtain ⟨ba, bc, rfl⟩ := hb.slice
 rw [HJ.out]
 have hwa : BG.wd al ≤ 8 := by
  cases al with
  | nil => simp [BG.wd]
  | cons x t => exact ((BG.chk_all ca).2 x (by simp)).1
 have hwb : BG.wd bl ≤ 8 := by
  cases bl with
  | nil => simp [BG.wd]
  | cons x t => exact ((BG.chk_all cb).2 x (by simp)).1
 clear HJ ha hb hra hrb ca cb
 generalize BG.wd al = wa at *
 generalize BG.wd bl = wb at *
 have hm : (al.length : Int) * (bl.length : Int) ≤ 1600 := by
  have : al.length * bl.length ≤ 40 * 40 := Nat.mul_le_mul a40 b40
  have h2 : ((al.length * bl.length : Nat) : Int) ≤ ((40 * 40 : Nat) : Int) := by omega
  simpa using h2
 have hm0 : 0 ≤ (al.length : Int) * (bl.length : Int) := Int.mul_nonneg (by omega) (by omega)
 have hd : 8 < wa + wb ∨ (40 : Int) < (al.length : Int) * (bl.length : Int) := by
  rcases hw with h | h
  · exact .inl h
  ·
   right
   have h2 : ((40 : Nat) : Int) < ((al.length * bl.length : Nat) : Int) := by omega
   simpa using h2
 obtain ⟨m9, hm9⟩ : ∃ m : Int, (al.length : Int) * (bl.length : Int) = m := ⟨_, rfl⟩
 rw [hm9] at hm hm0 hd
 clear hw
 generalize al.length = na at *
 generalize bl.length = nb at *
 refine (callsIn_wide (n := 3)).1 ?_
 refine callsIn_of_wp_marks Tryz.func21 rfl trivial ?_ rfl
 simp only [Tryz.ntmps21, List.size_toArray, List.length_cons, List.length_nil, Nat.reduceAdd, Nat.reduceSub, Array.replicate_succ, Array.replicate_zero, List.push_toArray, List.append_toArray, List.nil_append, List.cons_append]
 gi_wp2_with fail
 refine ⟨trivial, ?_⟩
 refine (callsIn_wide.2 (HCa.out _ (Fr.refl w))).mono ?_
 rintro _ w1 ⟨rfl, f1⟩
 have F1 := hideP f1
 clear f1
 gi_wp2_with fail
 refine ⟨trivial, ?_⟩
 refine (callsIn_wide.2 (HCb.out _ F1.out)).mono ?_
 rintro _ w2 ⟨rfl, f2⟩
 have F2 := hideP (F1.out.trans f2)
 clear f2
 gi_wp2_with fail
 refine ⟨trivial, ?_⟩
 refine (callsIn_wide.2 (HWa.out _ F2.out)).mono ?_
 rintro _ wq ⟨rfl, rfl⟩
 gi_wp2_with fail
 refine ⟨trivial, ?_⟩
 refine (callsIn_wide.2 (HWb.out _ F2.out)).mono ?_
 rintro _ w3 ⟨rfl, rfl⟩
 by_cases h8 : 8 < wa + wb
 ·
  have h8Z : (8 : Int) < (wa : Int) + (wb : Int) := by omega
  gi_wp2_with fail
  refine ⟨.tuple #[.slice none 0 0, .int .i64 2], ?_, rfl, F2.out⟩
  simp [results, Tryz.results21, go_sem]
 ·
  have h8Z : ((8 : Int) < (wa : Int) + (wb : Int)) = False := by simp; omega
  have hmZ : (40 : Int) < m9 := by omega
  gi_wp2_with fail
  refine ⟨.tuple #[.slice none 0 0, .int .i64 2], ?_, rfl, F2.out⟩
  simp [results, Tryz.results21, go_sem]
end Go.Proofs.YtbcfdhimngoplaaGreatDoor
namespace Go.Proofs.YtbcfdhimngoplaaGreatDoor
set_option linter.unusedVariables false
set_option linter.unusedSimpArgs false
namespace BG
open VM
theorem at?_get {r : List Vl} : ∀ {fs : List (List Vl)} {i : Nat}, at? r fs = some i → ∃ h : i < fs.length, fs[i] = r
 | [], i, h => by cases h
 | x :: t, i, h => by
  unfold at? at h
  split at h
  ·
   rename_i e
   cases h
   exact ⟨by simp, e⟩
  ·
   rw [Option.map_eq_some_iff] at h
   obtain ⟨j, hj, rfl⟩ := h
   obtain ⟨h1, h2⟩ := at?_get hj
   exact ⟨by simp; omega, by simpa using h2⟩
def ofK (cs : List Int) (ls : List (List Vl)) (k : List Vl) : List (List Vl) := ls.filter fun r => decide (pck r cs = k)
def allG (cs : List Int) (ls : List (List Vl)) : List Gp := (BM.dist (ls.map fun r => pck r cs)).map fun k => (k, ofK cs ls k)
theorem allG_fst (cs : List Int) (ls : List (List Vl)) : (allG cs ls).map (·.1) = BM.dist (ls.map fun r => pck r cs) := by
 unfold allG
 rw [List.map_map]
 exact (List.map_congr_left fun k _ => rfl).trans (List.map_id _)
theorem ofK_snoc (cs : List Int) (ls : List (List Vl)) (r : List Vl) (k : List Vl) : ofK cs (ls ++ [r]) k = ofK cs ls k ++ (if pck r cs = k then [r] else []) := by
 unfold ofK
 rw [List.filter_append]
 congr 1
 by_cases h : pck r cs = k
 · rw [if_pos h]; simp [h]
 · rw [if_neg h]; simp [h]
theorem step_all (cs : List Int) (ls : List (List Vl)) (r : List Vl) : stepG cs (allG cs ls) r = allG cs (ls ++ [r]) := by
 have hn : (BM.dist (ls.map fun r => pck r cs)).Nodup := BM.dist_nodup _
 have hm : ∀ y, y ∈ BM.dist (ls.map fun r => pck r cs) ↔ y ∈ ls.map fun r => pck r cs := fun y => BM.mem_dist _
 have hd : BM.dist ((ls ++ [r]).map fun r => pck r cs) = BM.dist (ls.map fun r => pck r cs) ++ (if pck r cs ∈ ls.map (fun r => pck r cs) then [] else [pck r cs]) := by
  rw [List.map_append, (BM.dist_parts _ _).2]
  simp only [BM.dst, List.map_cons, List.map_nil]
  congr 1
  by_cases hq : pck r cs ∈ ls.map (fun r => pck r cs)
  · rw [if_pos hq, if_pos hq]
  · rw [if_neg hq, if_neg hq]
 have hf : (allG cs ls).map (·.1) = BM.dist (ls.map fun r => pck r cs) := allG_fst cs ls
 have hl : (allG cs ls).length = (BM.dist (ls.map fun r => pck r cs)).length := by unfold allG; rw [List.length_map]
 have hg : ∀ i (h : i < (allG cs ls).length), (allG cs ls)[i] = ((BM.dist (ls.map fun r => pck r cs))[i]'(by rw [← hl]; exact h), ofK cs ls ((BM.dist (ls.map fun r => pck r cs))[i]'(by rw [← hl]; exact h))) := fun i h => by
  exact List.getElem_map (fun k => (k, ofK cs ls k))
 unfold stepG
 simp only [hf]
 cases hq : at? (pck r cs) (BM.dist (ls.map fun r => pck r cs)) with
 | none =>
  have hno : pck r cs ∉ ls.map (fun r => pck r cs) := fun h => at?_none.1 hq ((hm _).2 h)
  have hp : plc (BM.dist (ls.map fun r => pck r cs)) (pck r cs) = (BM.dist (ls.map fun r => pck r cs)).length := by unfold plc; rw [hq]; rfl
  rw [hp, if_pos hl.symm]
  have e1 : (allG cs ls ++ [(pck r cs, ([] : List (List Vl)))]).getD (BM.dist (ls.map fun r => pck r cs)).length ([], []) = (pck r cs, []) := by
   rw [List.getD_eq_getElem?_getD, List.getElem?_append_right (by omega), hl]
   simp
  rw [e1, List.set_append_right _ _ (by omega)]
  have e2 : (BM.dist (ls.map fun r => pck r cs)).length - (allG cs ls).length = 0 := by omega
  rw [e2]
  rw [if_neg hno] at hd
  show allG cs ls ++ [(pck r cs, [] ++ [r])] = _
  have e3 : allG cs (ls ++ [r]) = (BM.dist (ls.map fun r => pck r cs) ++ [pck r cs]).map fun k => (k, ofK cs (ls ++ [r]) k) := by
   show (BM.dist ((ls ++ [r]).map fun r => pck r cs)).map _ = _
   rw [hd]
  rw [e3, List.map_append]
  congr 1
  ·
   refine List.map_congr_left fun k hk => ?_
   rw [ofK_snoc, if_neg (fun e => hno ((hm _).1 (by rw [e]; exact hk))), List.append_nil]
  ·
   have e4 : ofK cs ls (pck r cs) = [] := by
    unfold ofK
    rw [List.filter_eq_nil_iff]
    intro x hx h
    exact hno (List.mem_map.2 ⟨x, hx, by simpa using h⟩)
   simp only [List.map_cons, List.map_nil]
   rw [ofK_snoc, e4, if_pos rfl]
 | some i =>
  obtain ⟨hi, hk⟩ := at?_get hq
  have hyes : pck r cs ∈ ls.map (fun r => pck r cs) := (hm _).1 (hk ▸ List.getElem_mem hi)
  have hp : plc (BM.dist (ls.map fun r => pck r cs)) (pck r cs) = i := by unfold plc; rw [hq]; rfl
  rw [hp, if_neg (by omega)]
  rw [if_pos hyes, List.append_nil] at hd
  have e3 : allG cs (ls ++ [r]) = (BM.dist (ls.map fun r => pck r cs)).map fun k => (k, ofK cs (ls ++ [r]) k) := by
   show (BM.dist ((ls ++ [r]).map fun r => pck r cs)).map _ = _
   rw [hd]
  rw [e3]
  have e1 : (allG cs ls).getD i ([], []) = (pck r cs, ofK cs ls (pck r cs)) := by
   rw [List.getD_eq_getElem?_getD, List.getElem?_eq_getElem (by omega), hg i (by omega)]
   simp only [Option.getD_some]
   rw [hk]
  rw [e1]
  refine List.ext_getElem (by rw [List.length_set, List.length_map, hl]) fun j h1 h2 => ?_
  rw [List.getElem_map, List.getElem_set]
  rw [List.length_map] at h2
  by_cases hj : i = j
  ·
   subst hj
   rw [if_pos rfl, ofK_snoc, hk, if_pos rfl]
  ·
   rw [if_neg hj, hg j (by omega), ofK_snoc, if_neg, List.append_nil]
   intro e
   rw [← hk] at e
   exact hj ((List.getElem_inj hn).1 e)
theorem grp_all (cs : List Int) (ls : List (List Vl)) : grp cs ls = allG cs ls := by
 have key : ∀ (l b : List (List Vl)), l.foldl (stepG cs) (allG cs b) = allG cs (b ++ l) := by
  intro l
  induction l with
  | nil => intro b; simp
  | cons x t ih => intro b; rw [List.foldl_cons, step_all, ih]; simp
 exact key ls []
theorem pck_len (r : List Vl) (cs : List Int) : (pck r cs).length = cs.length := by unfold pck; rw [List.length_map]
end BG
end Go.Proofs.YtbcfdhimngoplaaGreatDoor
