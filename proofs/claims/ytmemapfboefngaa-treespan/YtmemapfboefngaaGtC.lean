/-
  What belongs together: TsE, TsF, TsG, TsH.
-/
import Derived.Test.YtmemapfboefngaaGtB
import Derived.RangeFuncNested
import Derived.RangeFuncBound
import Derived.RangeFuncCalls
import Derived.RangeFuncLeaves
import Derived.Shelf.Abstract
import Derived.Shelf.RegionOpen
import Derived.OwnWalkIn
import Derived.TacticsInMore
import Derived.LoopNIn
import Derived.LoopIn
import Derived.RangeFuncBox
import Derived.Maps.AppendAt
namespace Go.Proofs.Ytmemapfboefngaa
open Go.ChangeShapes Go.WideShapes Go.ChangeAt Go.RowKit Go.Shelf
set_option linter.unusedVariables false
set_option linter.unusedSimpArgs false
set_option maxRecDepth 100000
attribute [local go_sem] Oper.semAt_some
def ptV (p : TK.Pr) : Array Value := #[.agg #[.string p.k, .int .i64 p.n]]
/-- the box of the tree, and all that was there, are kept -/
structure K1 (n₀ Bb : Nat) (A B : World) : Prop where
  b : Below n₀ A B
  x : B.heap[Bb]? = A.heap[Bb]?
theorem K1.refl (n₀ Bb : Nat) (A : World) : K1 n₀ Bb A A := ⟨Below.refl _ _, rfl⟩
theorem k1_t {n₀ Bb : Nat} {A B C : World} (h : K1 n₀ Bb A B) (k : K1 n₀ Bb B C) : K1 n₀ Bb A C := ⟨h.b.trans k.b, k.x.trans h.x⟩
theorem k1_b {n₀ Bb : Nat} {w : World} (hn : n₀ ≤ w.heap.size) (hA : Bb < w.heap.size) (W : World) (l : Nat) (o o' : Obj) (hl : w.heap.size ≤ l) (h1 : W.heap[l]? = some o) (h2 : o.isCells = false) (h3 : o.isWalk = false) : K1 n₀ Bb W (W.putObj l o') :=
  ⟨belowK_b (w := w) hn W l o o' hl h1 h2 h3, World.putObj_heap_other (by omega)⟩
theorem k1_alloc {n₀ Bb : Nat} {A B : World} (h : K1 n₀ Bb A B) (hn : n₀ ≤ A.heap.size) (hA : Bb < A.heap.size) (hs : A.heap.size ≤ B.heap.size) (o : Obj) : K1 n₀ Bb A (B.alloc o) :=
  ⟨h.b.alloc (by omega) o, (((Fr.refl B).alloc o).block Bb (by omega)).trans h.x⟩
theorem take_flat {α : Type} (L : List (List α)) (i : Nat) (h : i < L.length) : (L.take (i + 1)).flatten = (L.take i).flatten ++ L[i] := by
  rw [List.take_succ_eq_append_getElem h, List.flatten_append]
  simp
theorem flat_lt {α : Type} (L : List (List α)) (i j : Nat) (h : i < L.length) (hj : j < L[i].length) : ((L.take i).flatten ++ (L[i].take j)).length < L.flatten.length := by
  have e : L.flatten.length = ((L.take (i + 1)).flatten ++ (L.drop (i + 1)).flatten).length := by rw [← List.flatten_append, List.take_append_drop]
  rw [e, take_flat L i h, List.length_append, List.length_append, List.length_append, List.length_take]
  omega
set_option maxHeartbeats 2000000 in
theorem pairsT_in (n : Nat) (hn : 1 ≤ n) (l Bb n₀ : Nat) (a : Option Addr) (c : Nat) (L : List (List TK.Pr)) (qs : List Sq) (hqs : qs.length = L.length) (hL : L.length ≤ 1000000) (hR : ∀ r ∈ L, r.length ≤ 1000000) (J Jx : List TK.Pr → World → Prop) (W : World) (hn0 : n₀ ≤ W.heap.size) (hA : AbidesFrom W.heap.size J)
    (hY : ∀ pre (x : TK.Pr) W1, J pre W1 → pre.length < L.flatten.length → YieldAt Fence.wide (n - 1) Try.prog l (ptV x) W1 fun e W' =>
      (e = .returned (.bool true) ∧ J (pre ++ [x]) W' ∧ K1 n₀ Bb W1 W') ∨ (e = .returned (.bool false) ∧ Jx (pre ++ [x]) W'))
    (hca : W.cell? ⟨Bb, 0, none⟩ = some (.slice a L.length c))
    (hsa : L = [] ∨ ∃ g o, a = some ⟨g, o, none⟩ ∧ g < n₀ ∧ At cdS W g o qs) (hrw : ∀ i (h1 : i < qs.length) (h2 : i < L.length), qs[i].n = L[i].length ∧ (L[i] = [] ∨ ∃ g o, qs[i].a = some ⟨g, o, none⟩ ∧ g < n₀ ∧ At cdPr W g o L[i])) (h0 : J [] W) :
    CallsIn Fence.wide n Try.prog 49 #[.func (.yield l) #[] #[], .pointer (some ⟨Bb, 0, none⟩)] W fun e W' => (∃ v, e = .returned v) ∧
      ((∃ ys, ys = L.flatten ∧ J ys W') ∨ (∃ pre, (∃ suf, pre ++ suf = L.flatten) ∧ Jx pre W')) := by
  have HA := hideP hsa
  have HRw := hideP hrw
  have HYi := hideP hY
  have HAb := hideP hA
  have HRl := hideP hR
  have HBb := hideP (World.block_lt_of_cell? _ _ hca)
  clear hsa hrw hY hA hR
  refine callsIn_of_wp Try.func49 rfl trivial ?_ rfl
  simp only [Try.ntmps49, List.size_toArray, List.length_cons, List.length_nil, Nat.reduceAdd, Nat.reduceSub, Array.replicate_succ, Array.replicate_zero, List.push_toArray, List.append_toArray, List.nil_append, List.cons_append]
  gi_wp2
  gi_loopw [4, 6, 10] (fun _ _ i wr => ∃ k : Nat, k ≤ L.length ∧ i = .int .i64 (k : Int) ∧ J (L.take k).flatten wr ∧ K1 n₀ Bb W wr ∧ W.heap.size ≤ wr.heap.size) (fun _ _ i _ => L.length - (intOf i).toNat)
  case atStart => exact ⟨0, Nat.zero_le _, rfl, h0, K1.refl _ _ _, Nat.le_refl _⟩
  case round =>
    obtain ⟨k, hk, rfl, hJs, hnx, hsz⟩ := hrel
    by_cases hlt : k < L.length
    case neg =>
      obtain rfl : k = L.length := by omega
      rw [List.take_length] at hJs
      have HJ := hideP hJs
      clear hJs
      gi_wp2
      go_end0
      exact ⟨⟨_, rfl⟩, .inl ⟨_, rfl, HJ.out⟩⟩
    have hltZ : (k : Int) < (L.length : Int) := by omega
    obtain ⟨ga, oa, rfl, hga, hat⟩ : ∃ g o, a = some ⟨g, o, none⟩ ∧ g < n₀ ∧ At cdS W g o qs := by
      rcases HA.out with h | h
      · subst h; simp at hlt
      · exact h
    have c0' := hat.s1 k (by omega)
    have c0 : wr.cell? ⟨ga, oa + k, none⟩ = _ := (hnx.b.cell (p := ⟨ga, oa + k, none⟩) hga).trans c0'
    obtain ⟨hqn, hqa⟩ := HRw.out k (by omega) hlt
    have hst := take_flat L k hlt
    have hfl := fun j (hj : j < L[k].length) => flat_lt L k j hlt hj
    have hrl := HRl.out _ (List.getElem_mem hlt)
    have hpre : ∀ j, ∃ suf, (L.take k).flatten ++ (L[k].take j) ++ suf = L.flatten := fun j => ⟨L[k].drop j ++ (L.drop (k + 1)).flatten, by
      rw [List.append_assoc, ← List.append_assoc (List.take j L[k]), List.take_append_drop, ← List.append_assoc, ← hst, ← List.flatten_append, List.take_append_drop]⟩
    have hstep : ∀ j (hj : j < L[k].length), L[k].take (j + 1) = L[k].take j ++ [L[k][j]] := fun j hj => List.take_succ_eq_append_getElem hj
    generalize hLk : L[k] = r at *
    clear hLk
    obtain ⟨q, hqq⟩ : ∃ q, (qs[k]'(by omega)) = q := ⟨_, rfl⟩
    rw [hqq] at c0 hqn hqa
    obtain ⟨qa, qn, qc⟩ := q
    simp only at c0 hqn hqa
    subst hqn
    have HSt := hideP hst
    have HJ := hideP hJs
    have HN := hideP hnx
    have HFl := hideP hfl
    have HPr := hideP hpre
    have HSp := hideP hstep
    have HQa := hideP hqa
    have HSz := hideP hsz
    clear hst hJs hnx c0' hat hfl hpre hstep hqa hqq hsz
    gi_wp2
    clear c0
    gi_loopw [6, 16] (fun _ i wr => ∃ j : Nat, j ≤ r.length ∧ i = .int .i64 (j : Int) ∧ J ((L.take k).flatten ++ r.take j) wr ∧ K1 n₀ Bb W wr ∧ W.heap.size ≤ wr.heap.size) (fun _ i _ => r.length - (intOf i).toNat)
    case atStart => exact ⟨0, Nat.zero_le _, rfl, by simpa using HJ.out, HN.out, HSz.out⟩
    case round =>
      clear HJ HN HSz
      obtain ⟨j, hj, rfl, hJs, hnx, hsz⟩ := hrel
      by_cases hltj : j < r.length
      case neg =>
        obtain rfl : j = r.length := by omega
        rw [List.take_length] at hJs
        have HJ := hideP hJs
        have HN := hideP hnx
        have HSz := hideP hsz
        clear hJs hnx hsz
        gi_wp2
        go_roundw
        case rel => exact ⟨k + 1, by omega, by go_num, by rw [HSt.out]; exact HJ.out, HN.out, HSz.out⟩
        case measure => first | (simp [intOf]; done) | (simp [intOf]; omega)
      have hltjZ : (j : Int) < (r.length : Int) := by omega
      obtain ⟨gb, ob, rfl, hgb, hat⟩ : ∃ g o, qa = some ⟨g, o, none⟩ ∧ g < n₀ ∧ At cdPr W g o r := by
        rcases HQa.out with h | h
        · subst h; simp at hltj
        · exact h
      obtain ⟨c0', c1'⟩ := hat.p2 j hltj
      have c0 : wr.cell? ⟨gb, ob + j * 2, none⟩ = _ := (hnx.b.cell (p := ⟨gb, ob + j * 2, none⟩) hgb).trans c0'
      have c1 : wr.cell? ⟨gb, ob + j * 2 + 1, none⟩ = _ := (hnx.b.cell (p := ⟨gb, ob + j * 2 + 1, none⟩) hgb).trans c1'
      have hst := HSp.out j hltj
      have hbound := HFl.out j hltj
      have hpr := HPr.out (j + 1)
      generalize r[j] = y at *
      obtain ⟨yk, yn⟩ := y
      simp only at c0 c1
      have hJ1 := HAb.out _ wr (wr.alloc (.cells #[.string yk, .int .i64 yn] 38)) none hJs (World.grownBy_alloc wr _ none) (fun r e => by cases e)
      have hK1 := k1_alloc hnx hn0 HBb.out hsz (.cells #[.string yk, .int .i64 yn] 38)
      obtain ⟨fn, tmps, assign, body, hy, hRd⟩ := HYi.out _ ⟨yk, yn⟩ _ hJ1 hbound
      simp only [ptV] at hy
      have nb := Blk.new wr #[.string yk, .int .i64 yn] 38
      have n0 := nb.cell 0 (u := .string yk) rfl
      have n1 := nb.cell 1 (u := .int .i64 yn) rfl
      have HSt2 := hideP hst
      have HN := hideP hK1
      have HPr2 := hideP hpr
      have HSz2 := hideP hsz
      clear hst hJs hJ1 hK1 hnx c0' c1' hat hbound nb hpr hsz
      gi_wp2
      refine hRd.mono ?_
      rintro e W3 (⟨rfl, hJ3, hk3⟩ | ⟨rfl, hJx3⟩)
      · have HJ3 := hideP hJ3
        have HK3 := hideP (k1_t HN.out hk3)
        have HSz3 := hideP (show W.heap.size ≤ W3.heap.size from Nat.le_trans HSz2.out (Nat.le_trans (by simp) hk3.b.size))
        clear hJ3 hk3
        gi_wp2
        go_roundw
        case rel => exact ⟨j + 1, by omega, by go_num, by rw [HSt2.out, ← List.append_assoc]; exact HJ3.out, HK3.out, HSz3.out⟩
        case measure => first | (simp [intOf]; done) | (simp [intOf]; omega)
      · gi_wp2
        refine bodyPost_ret (results_none rfl _ _ _) rfl ?_
        exact ⟨⟨_, rfl⟩, .inr ⟨_, by rw [HSt2.out, ← List.append_assoc] at HPr2; exact HPr2.out, hJx3⟩⟩
theorem pairsT_any (p q : Value) (w : World) : Calls Try.prog 32 #[.agg #[p, q]] w fun e w' => e = .returned (.func (.func 49) #[] #[.pointer (some ⟨w.heap.size, 0, none⟩)]) ∧ w' = w.alloc (.cells #[p, q] 25) := by
  go_enter Try.func32, Try.ntmps32
  go_wp2
  go_ret
  exact ⟨rfl, rfl⟩
theorem pairsT_stops (n : Nat) (hn : 1 ≤ n) (Bb n₀ : Nat) (v : Value) (w0 : World) (L : List (List TK.Pr)) (hL : L.length ≤ 1000000) (hR : ∀ r ∈ L, r.length ≤ 1000000) (w : World) (hn₀ : n₀ ≤ w.heap.size) (hb0 : Below n₀ w0 w) (hw0 : w0.heap.size = n₀) (hca : w.cell? ⟨Bb, 0, none⟩ = some v) (hI : IsLL cdPr w0 v L) :
    SeqStopsK Fence.wide n Try.prog 49 #[.pointer (some ⟨Bb, 0, none⟩)] ptV (K1 n₀ Bb) (fun ys => ys = L.flatten) (fun pre => ∃ suf, pre ++ suf = L.flatten) L.flatten.length w :=
  fun l J Jx W hW hA _ hY h0 => by
    obtain ⟨qs, ⟨a, c, rfl, _, hcs⟩, hq, hrow⟩ := hI
    rw [hq] at hca
    have mv : ∀ {g o j : Nat}, g < n₀ → W.cell? ⟨g, o + j, none⟩ = w0.cell? ⟨g, o + j, none⟩ := fun {g o j} hg => ((Below.mono hW (by omega)).cell (p := ⟨g, o + j, none⟩) (by show g < n₀; omega)).trans (hb0.cell (p := ⟨g, o + j, none⟩) (by show g < n₀; omega))
    refine pairsT_in n hn l Bb n₀ a c L qs hq hL hR J Jx W (Nat.le_trans hn₀ hW.size) hA hY ((hW.cell (p := ⟨Bb, 0, none⟩) (World.block_lt_of_cell? _ _ hca)).trans hca) ?_ (fun i h1 h2 => ?_) h0
    · rcases hcs with h | ⟨g, o, rfl, hg, hh⟩
      · left
        rw [h] at hq
        exact List.length_eq_zero_iff.1 hq.symm
      · exact .inr ⟨g, o, rfl, by omega, fun j x hx => (mv (by omega)).trans (hh j x hx)⟩
    · obtain ⟨a1, c1, e1, _, hc1⟩ := hrow i h1 h2
      unfold Sq.v at e1
      simp only [Value.slice.injEq] at e1
      obtain ⟨e1, e2, _⟩ := e1
      refine ⟨e2, ?_⟩
      rcases hc1 with h | ⟨g, o, rfl, hg, hh⟩
      · exact .inl h
      · exact .inr ⟨g, o, e1, by omega, fun j x hx => (mv (by omega)).trans (hh j x hx)⟩
end Go.Proofs.Ytmemapfboefngaa
namespace Go.Proofs.Ytmemapfboefngaa
open Go.ChangeShapes Go.WideShapes Go.ChangeAt Go.RowKit Go.Shelf
set_option linter.unusedVariables false
set_option linter.unusedSimpArgs false
set_option maxRecDepth 100000
attribute [local go_sem] Oper.semAt_some
theorem blk_own {A B : World} {row : Option Nat} {b : Nat} {arr : Array Value} {T : TypeId} (h : Blk A b arr T) (hg : A.grownBy B row) (hr : ∀ r, row = some r → ∃ o : Obj, A.heap[r]? = some o ∧ o.isCells = false) : Blk B b arr T := by
  refine h.grown hg ?_
  intro e
  obtain ⟨o, ho, hc⟩ := hr b e
  have := ho.symm.trans h
  simp only [Option.some.injEq] at this
  subst this
  cases hc
theorem blk_put {W : World} {D b : Nat} {arr : Array Value} {T : TypeId} (h : Blk W b arr T) (hK : W.heap[D]? = some (.deferred (some []))) (o : Obj) : Blk (W.putObj D o) b arr T :=
  blk_own h (grownBy_putObj' W D o) (fun r e => by cases e; exact ⟨_, hK, rfl⟩)
theorem count_in (n : Nat) (hn : 3 ≤ n) (p q : Value) (L : List (List TK.Pr)) (hL : L.length ≤ 1000000) (hR : ∀ r ∈ L, r.length ≤ 1000000) (w : World) (h : IsLL cdPr w p L) (hq : ∃ a n c, q = .slice a n c) (hN : L.flatten.length ≤ 1000000000) :
    CallsIn Fence.wide n Try.prog 36 #[.agg #[p, q]] w fun e w' => e = .returned (.int .i64 (L.flatten.length : Int)) ∧ Fr w w' := by
  have h1 : 1 ≤ n := by omega
  have HI := hideP h
  obtain ⟨pa, pc, rfl⟩ := h.slice
  obtain ⟨qa, qn, qc, rfl⟩ := hq
  clear h
  have b0 := (Blk.new w #[.slice pa L.length pc, .slice qa qn qc] 25).old (.cells #[.int .i64 0] 3)
  have b1 := Blk.new (w.alloc (.cells #[.slice pa L.length pc, .slice qa qn qc] 25)) #[.int .i64 0] 3
  rw [World.size_alloc] at b1
  have x0 := b0.cell 0 (u := .slice pa L.length pc) rfl
  have x1 := b0.cell 1 (u := .slice qa qn qc) rfl
  have HB1 := hideP b1
  have HF1 := hideP (((Fr.refl w).alloc (.cells #[.slice pa L.length pc, .slice qa qn qc] 25)).alloc (.cells #[.int .i64 0] 3))
  have hsz : ((w.alloc (.cells #[.slice pa L.length pc, .slice qa qn qc] 25)).alloc (.cells #[.int .i64 0] 3)).heap.size = w.heap.size + 2 := by simp
  have HSz := hideP hsz
  clear b0 b1 hsz
  refine callsIn_of_wp_marks Try.func36 rfl trivial ?_ rfl
  simp only [Try.ntmps36, List.size_toArray, List.length_cons, List.length_nil, Nat.reduceAdd, Nat.reduceSub, Array.replicate_succ, Array.replicate_zero, List.push_toArray, List.append_toArray, List.nil_append, List.cons_append]
  gi_wp2_with fail
  refine ⟨trivial, ?_⟩
  refine (callsIn_wide.2 (pairsT_any _ _ _)).mono ?_
  rintro _ w2 ⟨rfl, hw2⟩
  subst hw2
  clear x0 x1
  generalize (w.alloc (.cells #[.slice pa L.length pc, .slice qa qn qc] 25)).alloc (.cells #[.int .i64 0] 3) = W1 at *
  have bT := Blk.new W1 #[.slice pa L.length pc, .slice qa qn qc] 25
  have HF2 := hideP (HF1.out.alloc (.cells #[.slice pa L.length pc, .slice qa qn qc] 25))
  have HB2 := hideP (HB1.out.old (.cells #[.slice pa L.length pc, .slice qa qn qc] 25))
  have hsz2 : (W1.alloc (.cells #[.slice pa L.length pc, .slice qa qn qc] 25)).heap.size = w.heap.size + 3 := by rw [World.size_alloc, HSz.out]
  have hcT := bT.cell 0 (u := .slice pa L.length pc) rfl
  rw [HSz.out] at hcT bT
  gi_wp2_with fail
  generalize hW2 : W1.alloc (.cells #[.slice pa L.length pc, .slice qa qn qc] 25) = W2 at *
  have hBb : w.heap.size + 2 < W2.heap.size := by omega
  rw [HSz.out]
  refine wpIn_rangeFunc_ownG rfl h1 (gf := 49) (lb := #[.pointer (some ⟨w.heap.size + 2, 0, none⟩)]) rfl trivial (enters_of Try.func49 (by kernel_rfl) rfl)
    (pairsT_stops (n - 1) (by omega) (w.heap.size + 2) w.heap.size (.slice pa L.length pc) w L hL hR W2 (HF2.out.size) HF2.out rfl hcT HI.out) k1_t (k1_b (w := W2) HF2.out.size hBb) (Below.refl _ _) (fun _ => rfl)
    (fun pre W => Blk W (w.heap.size + 1) #[.int .i64 (pre.length : Int)] 3 ∧ Fr w W) (fun _ _ _ => False)
    (fun s A B row hs hg hr => ⟨blk_own hs.1 hg (fun r e => (hr r e).2), hs.2.grown hg hs.2.size (fun k e => by have := (hr k e).1; have := HF2.out.size; omega)⟩)
    (fun _ _ _ _ _ hs _ _ => hs)
    ⟨HB2.out, HF2.out⟩
    (fun x => { tmps := #[.agg #[.slice pa L.length pc, .slice qa qn qc], .pointer (some ⟨w.heap.size, 0, none⟩), .int .i64 0, .pointer (some ⟨w.heap.size + 1, 0, none⟩), .agg #[.slice pa L.length pc, .slice qa qn qc], .func (.func 49) #[] #[.pointer (some ⟨w.heap.size + 2, 0, none⟩)], .agg #[.string x.k, .int .i64 x.n], undef, undef, undef], defers := [] })
    ?assign ?body ?done ?stop
  case assign =>
    intro l x W K hK
    simp only [ptV]
    gi_wp2_with fail
    simpa using hK
  case body =>
    rintro l pre ⟨xk, xn⟩ W ⟨hB, hF⟩ hlt
    have c0 := hB.cell 0 (u := .int .i64 (pre.length : Int)) rfl
    have c1 := hB.frozen 0
    have hpl : (pre.length : Int) < 1000000000 := by omega
    have HB := hideP hB
    have HF := hideP hF
    clear hB hF
    gi_wp2
    refine ⟨(KeepsOthers.setCell W _ _).from _, ⟨(Below.refl _ _).setCell (by show w.heap.size ≤ w.heap.size + 1; omega) _, ?_⟩, ?_, HF.out.setCell (w.heap.size + 1) 0 _ (by omega)⟩
    · simp only [World.setCell, Array.getElem?_modify, if_neg (show ¬ w.heap.size + 1 = w.heap.size + 2 by omega)]
    · have := HB.out.set 0 (.int .i64 ((pre.length : Int) + 1))
      simpa using this
  case done =>
    rintro D ys W hD rfl ⟨hB, hF⟩ hK
    have c0 := hB.cell 0 (u := .int .i64 (L.flatten.length : Int)) rfl
    have HK := hideP hK
    have HF := hideP hF
    have hds := HF2.out.size
    clear hB hF hK
    gi_wp2
    refine ⟨by simp, .inl ⟨_, _, rfl, run_takeDeferred HK.out, ?_⟩⟩
    refine ⟨.int .i64 (L.flatten.length : Int), ?_, rfl, Below.trans HF.out (belowK_b (w := w) (Nat.le_refl _) W D _ _ (by omega) HK.out rfl rfl)⟩
    simp [results, Try.results36, go_sem]
  case stop =>
    rintro D c pre W _ _ h _
    exact h.elim
theorem count_any (p q : Value) (L : List (List TK.Pr)) (hL : L.length ≤ 1000000) (hR : ∀ r ∈ L, r.length ≤ 1000000) (w : World) (h : IsLL cdPr w p L) (hq : ∃ a n c, q = .slice a n c) (hN : L.flatten.length ≤ 1000000000) :
    Calls Try.prog 36 #[.agg #[p, q]] w fun e w' => e = .returned (.int .i64 (L.flatten.length : Int)) ∧ Fr w w' :=
  callsIn_wide.1 (count_in 3 (Nat.le_refl _) p q L hL hR w h hq hN)
end Go.Proofs.Ytmemapfboefngaa
namespace Go.Proofs.Ytmemapfboefngaa
open Go.ChangeShapes Go.WideShapes Go.ChangeAt Go.RowKit
set_option linter.unusedVariables false
set_option linter.unusedSimpArgs false
set_option maxRecDepth 100000
set_option maxHeartbeats 2000000
namespace TK
theorem lE_len {many : Nat} : ∀ {L : List (List Pr)} {st : Option ByteArray}, er (lE many st L) = 0 → ∀ r ∈ L, r.length ≤ 4
  | [], _, _, r, hr => by cases hr
  | l :: t, st, h, r, hr => by
    rw [lE_step] at h
    split at h
    · cases h
    · rename_i h1
      have h4 : l.length ≤ 4 := by
        unfold szOk at h1
        simp at h1
        omega
      cases hp : pE st l with
      | error c =>
        rw [hp] at h
        exact absurd h (pE_ne hp)
      | ok s =>
        rw [hp] at h
        rcases List.mem_cons.1 hr with rfl | hr
        · exact h4
        · exact lE_len h r hr
theorem flat_len4 {α : Type} : ∀ {L : List (List α)}, (∀ r ∈ L, r.length ≤ 4) → L.flatten.length ≤ 4 * L.length
  | [], _ => by simp
  | r :: t, h => by
    have h1 := h r (by simp)
    have h2 := flat_len4 (L := t) fun x hx => h x (by simp [hx])
    simp only [List.flatten_cons, List.length_append, List.length_cons]
    omega
end TK
theorem tcheck_any (p q : Value) (L : List (List TK.Pr)) (U : List (List Int)) (w : World) (h : IsT w p q L U) (hL : L.length ≤ 9223372036854775806) (hR : ∀ r ∈ L, r.length ≤ 9223372036854775806) (hS : ∀ r ∈ L, ∀ x ∈ r, x.k.size ≤ 9223372036854775806) (hU : U.length ≤ 9223372036854775806) (hUr : ∀ u ∈ U, u.length ≤ 17592186044416) :
    Calls Try.prog 18 #[.agg #[p, q]] w fun e w' => e = .returned (.int .i64 ((TK.chk L U : Nat) : Int)) ∧ Fr w w' := by
  have HK : Hid (TK.chk L U = if 64 < L.length ∨ 8 < U.length then 2 else if TK.er (TK.lE L.length none L) ≠ 0 then TK.er (TK.lE L.length none L) else if TK.uE L.length U ≠ 0 then TK.uE L.length U else if 64 < L.flatten.length then 2 else 0) := rfl
  have HC1 := hideP (fun W (f : Fr w W) => checkLeaves_any p L W (h.l.fr f) hL hR hS)
  have HC2 := hideP (fun (h64 : L.length ≤ 64) W (f : Fr w W) => checkUp_any p q L U W (h.fr f) (by omega) hU hUr)
  have HC3 := hideP (fun (h64 : L.length ≤ 64) (he : TK.er (TK.lE L.length none L) = 0) W (f : Fr w W) => count_any p q L (by omega) (fun r hr => by have := TK.lE_len he r hr; omega) W (h.l.fr f) (by obtain ⟨a, c, e⟩ := h.u.slice; exact ⟨a, _, c, e⟩) (by have := TK.flat_len4 (TK.lE_len he); omega))
  have HF4 := hideP (fun (h64 : L.length ≤ 64) (he : TK.er (TK.lE L.length none L) = 0) => show L.flatten.length ≤ 256 by have := TK.flat_len4 (TK.lE_len he); omega)
  obtain ⟨pa, pc, rfl⟩ := h.l.slice
  obtain ⟨qa, qc, rfl⟩ := h.u.slice
  generalize TK.chk L U = R at *
  generalize TK.er (TK.lE L.length none L) = e1 at *
  generalize TK.uE L.length U = e2 at *
  have bb := Blk.new w #[.slice pa L.length pc, .slice qa U.length qc] 25
  have x0 := bb.cell 0 (u := .slice pa L.length pc) rfl
  have x1 := bb.cell 1 (u := .slice qa U.length qc) rfl
  have F0 := hideP ((Fr.refl w).alloc (.cells #[.slice pa L.length pc, .slice qa U.length qc] 25))
  have HB := hideP bb
  clear bb h hR hS hUr
  by_cases h64 : 64 < L.length
  · have h64' : (64 : Int) < (L.length : Int) := by omega
    have HE := hideP (HK.out.trans (if_pos (.inl h64)))
    go_enter Try.func18, Try.ntmps18
    go_wp2_with fail
    go_ret
    exact ⟨by rw [HE.out]; rfl, F0.out⟩
  have h64' : ((64 : Int) < (L.length : Int)) = False := by simp; omega
  by_cases h8 : 8 < U.length
  · have h8' : (8 : Int) < (U.length : Int) := by omega
    have HE := hideP (HK.out.trans (if_pos (.inr h8)))
    go_enter Try.func18, Try.ntmps18
    go_wp2_with fail
    go_ret
    exact ⟨by rw [HE.out]; rfl, F0.out⟩
  have h8' : ((8 : Int) < (U.length : Int)) = False := by simp; omega
  replace HK := hideP (HK.out.trans (if_neg (by omega)))
  go_enter Try.func18, Try.ntmps18
  go_wp2_with fail
  refine (HC1.out _ F0.out).mono ?_
  rintro _ w1 ⟨rfl, f1⟩
  have F1 := hideP (F0.out.trans f1)
  have HB1 := hideP (HB.out.fr f1)
  clear f1 x0 x1
  have x0 := HB1.out.cell 0 (u := .slice pa L.length pc) rfl
  have x1 := HB1.out.cell 1 (u := .slice qa U.length qc) rfl
  by_cases he1 : e1 = 0
  case neg =>
    have HE := hideP (HK.out.trans (if_pos he1))
    have g1 : ((e1 : Int) != 0) = true := by simp; omega
    have g2 : ¬ ((e1 : Int) = 0) := by omega
    go_wp2_with fail
    go_ret
    exact ⟨by rw [HE.out]; rfl, F1.out⟩
  replace HK := hideP (HK.out.trans (if_neg (by simpa using he1)))
  subst he1
  go_wp2_with fail
  refine (HC2.out (by omega) _ F1.out).mono ?_
  rintro _ w2 ⟨rfl, f2⟩
  have F2 := hideP (F1.out.trans f2)
  have HB2 := hideP (HB1.out.fr f2)
  clear f2 x0 x1
  have x0 := HB2.out.cell 0 (u := .slice pa L.length pc) rfl
  have x1 := HB2.out.cell 1 (u := .slice qa U.length qc) rfl
  by_cases he2 : e2 = 0
  case neg =>
    have HE := hideP (HK.out.trans (if_pos he2))
    have g1 : ((e2 : Int) != 0) = true := by simp; omega
    have g2 : ¬ ((e2 : Int) = 0) := by omega
    go_wp2_with fail
    go_ret
    exact ⟨by rw [HE.out]; rfl, F2.out⟩
  replace HK := hideP (HK.out.trans (if_neg (by simpa using he2)))
  subst he2
  go_wp2_with fail
  refine (HC3.out (by omega) (by trivial) _ F2.out).mono ?_
  rintro _ w3 ⟨rfl, f3⟩
  have F3 := hideP (F2.out.trans f3)
  have h256 := HF4.out (by omega) (by trivial)
  clear f3 x0 x1
  generalize L.flatten.length = m at *
  by_cases hm : 64 < m
  · have HE := hideP (HK.out.trans (if_pos hm))
    have hm' : (64 : Int) < (m : Int) := by omega
    go_wp2_with fail
    go_ret
    exact ⟨by rw [HE.out]; rfl, F3.out⟩
  · have HE := hideP (HK.out.trans (if_neg hm))
    have hm' : ¬ (64 : Int) < (m : Int) := by omega
    go_wp2_with fail
    go_ret
    exact ⟨by rw [HE.out]; rfl, F3.out⟩
end Go.Proofs.Ytmemapfboefngaa
namespace Go.Proofs.Ytmemapfboefngaa
open Go.ChangeShapes Go.WideShapes Go.ChangeAt Go.RowKit Go.Shelf
set_option linter.unusedVariables false
set_option linter.unusedSimpArgs false
set_option maxRecDepth 100000
attribute [local go_sem] Oper.semAt_some
theorem info_parts {t : TypeId} {z : Value} {s b : Nat} (h : (Try.prog.info? t).map (fun i => (i.zero, i.size, i.bytes)) = some (some z, s, b)) : ∃ i, Try.prog.info? t = some i ∧ i.zero = some z ∧ i.size = s ∧ i.bytes = b := by
  cases hi : Try.prog.info? t with
  | none => rw [hi] at h; cases h
  | some i =>
    rw [hi] at h
    simp only [Option.map_some, Option.some.injEq, Prod.mk.injEq] at h
    exact ⟨i, rfl, h.1, h.2.1, h.2.2⟩
theorem Try.infoPr : (Try.prog.info? 38).map (fun i => (i.zero, i.size, i.bytes)) = some (some (.agg #[.string ⟨#[]⟩, .int .i64 0]), 2, 24) := by kernel_rfl
theorem cell_two_new (w : World) (x y : Value) (t : TypeId) : ∀ j u, [x, y][j]? = some u → (w.alloc (.cells #[x, y] t)).cell? ((⟨w.heap.size, 0, none⟩ : Addr).add j) = some u := by
  intro j u hj
  have hb := Blk.new w #[x, y] t
  rw [Addr.add_lit, Nat.zero_add]
  refine hb.cell j ?_
  match j, hj with
  | 0, hj => simpa using hj
  | 1, hj => simpa using hj
theorem flat_snoc {α : Type} (E : Cd α) (l : List α) (x : α) : flat E (l ++ [x]) = flat E l ++ E.c x := by rw [flat_app]; simp [flat]
set_option maxHeartbeats 2000000 in
theorem appendSeqP_in (n : Nat) (hn : 3 ≤ n) (Bb : Nat) (v : Value) (L : List (List TK.Pr)) (hL : L.length ≤ 1000000) (hR : ∀ r ∈ L, r.length ≤ 1000000) (w : World) (hBb : Bb < w.heap.size) (hca : w.cell? ⟨Bb, 0, none⟩ = some v) (h : IsLL cdPr w v L) (hN : L.flatten.length ≤ 1000000000) :
    CallsIn Fence.wide n Try.prog 48 #[.slice none 0 0, .func (.func 49) #[] #[.pointer (some ⟨Bb, 0, none⟩)]] w fun e W' =>
      ∃ u, e = .returned u ∧ W'.ownsRow w.heap.size 38 2 u L.flatten.length (flat cdPr L.flatten) ∧ Fr w W' := by
  have h1 : 1 ≤ n := by omega
  obtain ⟨i0, hi, hz0, hz1, hz2⟩ := info_parts Try.infoPr
  refine callsIn_of_wp_marks Try.func48 rfl trivial ?_ rfl
  simp only [Try.ntmps48, List.size_toArray, List.length_cons, List.length_nil, Nat.reduceAdd, Nat.reduceSub, Array.replicate_succ, Array.replicate_zero, List.push_toArray, List.append_toArray, List.nil_append, List.cons_append]
  gi_wp2
  have bO := Boxed.new w 28 (.slice none 0 0)
  have hB0 : Below w.heap.size w (w.alloc (.cells #[.slice none 0 0] 28)) := (Below.refl _ w).alloc (Nat.le_refl _) _
  have hbl : Bb < (w.alloc (.cells #[.slice none 0 0] 28)).heap.size := by simp; omega
  refine wpIn_rangeFunc_ownH rfl h1 (gf := 49) (lb := #[.pointer (some ⟨Bb, 0, none⟩)]) rfl trivial (enters_of Try.func49 (by kernel_rfl) rfl)
    (pairsT_stops (n - 1) (by omega) Bb w.heap.size v w L hL hR _ hB0.size hB0 rfl (by rw [← hca]; exact hB0.cell (p := ⟨Bb, 0, none⟩) hBb) h) k1_t (k1_b (w := w.alloc (.cells #[.slice none 0 0] 28)) hB0.size hbl) (Below.refl _ _) (fun _ => rfl)
    (fun pre W => (∃ u, Boxed W w.heap.size 28 u ∧ W.ownsRow w.heap.size 38 2 u pre.length (flat cdPr pre) ∧ True) ∧ Below w.heap.size w W)
    (fun _ _ _ => False)
    (OwnFrom.and (Own.from (holdsRow_own w.heap.size w.heap.size 28 38 2 (fun pre => pre.length) (fun pre => flat cdPr pre) (fun pre v => True)) _) (ownFrom_below (Nat.le_refl _) (by simp)))
    (fun _ _ _ _ _ hs _ _ => hs)
    ⟨⟨_, bO, World.ownsRow_nil _ _ _ _, trivial⟩, hB0⟩
    (fun x a' W => ∃ Bx, Blk W Bx #[.string x.k, .int .i64 x.n] 38 ∧ a' = { tmps := #[.slice none 0 0, .func (.func 49) #[] #[.pointer (some ⟨Bb, 0, none⟩)], .pointer (some ⟨w.heap.size, 0, none⟩), undef, .slice none 0 0, .pointer (some ⟨Bx, 0, none⟩), .func (.func 49) #[] #[.pointer (some ⟨Bb, 0, none⟩)], .agg #[.string x.k, .int .i64 x.n], undef, undef, undef, undef, undef], defers := [] })
    (fun x a' _ X Y row hs hg hr => by obtain ⟨Bx, e2, e3⟩ := hs; exact ⟨Bx, blk_own e2 hg (fun r e => (hr r e).2), e3⟩)
    ?assign ?body ?done ?stop
  case assign =>
    rintro l pre ⟨xk, xn⟩ W K ⟨⟨u, hu, hrow, _⟩, hB⟩ hK
    simp only [ptV]
    gi_wp2
    exact hK _ _ ((KeepsOthers.alloc _ _).from _) (k1_alloc (K1.refl _ _ _) (by have := hB.size; omega) (by have := hB.size; omega) (Nat.le_refl _) _) ⟨⟨u, hu.alloc _, hrow.alloc _, trivial⟩, hB.alloc hB.size _⟩ ⟨W.heap.size, Blk.new W _ _, rfl⟩
  case body =>
    rintro l pre ⟨xk, xn⟩ a' W hl _ ⟨⟨u, hu, hrow, _⟩, hB⟩ ⟨Bx, bX, rfl⟩ hlt
    have hc := hu.cell
    have d0 := bX.cell 0 (u := .string xk) rfl
    have d1 := bX.cell 1 (u := .int .i64 xn) rfl
    clear bX
    gi_wp2_with (gi_at_builtin; refine wpListIn_append_own _ rfl _ _ 28 rfl w.heap.size 38 i0 (.agg #[.string ⟨#[]⟩, .int .i64 0]) 2 24 Try.underlying28 hi hz0 hz1 hz2 rfl (by decide) _ _ _ rfl (hrow.alloc _) ⟨W.heap.size, 0, none⟩ 1 1 [.string xk, .int .i64 xn] rfl rfl (cell_two_new _ _ _ _) (by simp [Value.oneCell']) (by unfold maxLen; omega) (by omega) (by have := hB.size; simp; omega) ?_; intro v' w1 hown' hgrow _; obtain ⟨g', cap', rfl⟩ := ownsRow_succ hown'; obtain ⟨hv1, hv2, hr2, hk2, hb2⟩ := hu.appended (by decide) hrow hB.size (Nat.le_refl _) hown' hgrow; have hc1 := hv1.cell; have hf1 := hv1.frozen)
    exact ⟨hk2.from _, ⟨hb2, hb2.block Bb hBb⟩, ⟨_, hv2, by rw [flat_snoc, List.length_append]; exact hr2⟩, hB.trans hb2⟩
  case done =>
    rintro D ys W hD rfl ⟨⟨u, hu, hrow, _⟩, hB⟩ hK
    have hc := hu.cell
    gi_wp2
    refine ⟨by simp, .inl ⟨_, _, rfl, run_takeDeferred hK, ?_⟩⟩
    exact ⟨_, results_tmp rfl _ _ _, u, rfl, ownsRow_putObj hrow _ hK rfl, hB.trans (belowK_b (w := w) (Nat.le_refl _) W D _ _ (by simp at hD; omega) hK rfl rfl)⟩
  case stop =>
    rintro D c pre W _ _ h _
    exact h.elim
theorem collectP_any (Bb : Nat) (v : Value) (L : List (List TK.Pr)) (hL : L.length ≤ 1000000) (hR : ∀ r ∈ L, r.length ≤ 1000000) (w : World) (hBb : Bb < w.heap.size) (hca : w.cell? ⟨Bb, 0, none⟩ = some v) (h : IsLL cdPr w v L) (hN : L.flatten.length ≤ 1000000000) :
    Calls Try.prog 31 #[.func (.func 49) #[] #[.pointer (some ⟨Bb, 0, none⟩)]] w fun e W' =>
      ∃ u, e = .returned u ∧ W'.ownsRow w.heap.size 38 2 u L.flatten.length (flat cdPr L.flatten) ∧ Fr w W' := by
  have hA := callsIn_wide.1 (appendSeqP_in 3 (Nat.le_refl _) Bb v L hL hR w hBb hca h hN)
  clear hca h
  go_enter Try.func31, Try.ntmps31
  go_wp2_with (go_at_call 48; refine hA.mono ?_)
  rintro _ w1 ⟨u, rfl, hr, hf⟩
  go_wp2
  go_ret
  exact ⟨u, rfl, hr, hf⟩
/-- what List answers -/
def LAns (L : List (List TK.Pr)) (U : List (List Int)) (w : World) (e : Ending) (w' : World) : Prop :=
  (TK.chk L U ≠ 0 ∧ e = .returned (.tuple #[.slice none 0 0, .int .i64 ((TK.chk L U : Nat) : Int)])) ∨ (TK.chk L U = 0 ∧ ∃ u, e = .returned (.tuple #[u, .int .i64 0]) ∧ w'.ownsRow w.heap.size 38 2 u L.flatten.length (flat cdPr L.flatten))
theorem TK.chk_ok {L : List (List TK.Pr)} {U : List (List Int)} (h : TK.chk L U = 0) : L.length ≤ 64 ∧ U.length ≤ 8 ∧ TK.er (TK.lE L.length none L) = 0 ∧ TK.uE L.length U = 0 ∧ L.flatten.length ≤ 64 := by
  unfold TK.chk at h
  split at h
  · cases h
  split at h
  · omega
  split at h
  · omega
  split at h
  · cases h
  · exact ⟨by omega, by omega, by omega, by omega, by omega⟩
theorem list_any (p q : Value) (L : List (List TK.Pr)) (U : List (List Int)) (w : World) (h : IsT w p q L U) (hL : L.length ≤ 9223372036854775806) (hR : ∀ r ∈ L, r.length ≤ 9223372036854775806) (hS : ∀ r ∈ L, ∀ x ∈ r, x.k.size ≤ 9223372036854775806) (hU : U.length ≤ 9223372036854775806) (hUr : ∀ u ∈ U, u.length ≤ 17592186044416) :
    Calls Try.prog 14 #[.agg #[p, q]] w fun e w' => LAns L U w e w' ∧ Fr w w' := by
  have HC := hideP (fun W (f : Fr w W) => tcheck_any p q L U W (h.fr f) hL hR hS hU hUr)
  have HOk := hideP (fun (h0 : TK.chk L U = 0) => TK.chk_ok h0)
  have HI := hideP h
  obtain ⟨pa, pc, rfl⟩ := h.l.slice
  obtain ⟨qa, qc, rfl⟩ := h.u.slice
  have bb := Blk.new w #[.slice pa L.length pc, .slice qa U.length qc] 25
  have x0 := bb.cell 0 (u := .slice pa L.length pc) rfl
  have x1 := bb.cell 1 (u := .slice qa U.length qc) rfl
  have F0 := hideP ((Fr.refl w).alloc (.cells #[.slice pa L.length pc, .slice qa U.length qc] 25))
  have HB := hideP bb
  clear bb h hR hS hUr
  obtain ⟨m, hm⟩ : ∃ m, L.flatten.length = m := ⟨_, rfl⟩
  have HM := hideP hm
  clear hm
  obtain ⟨z, hz⟩ : ∃ z, TK.chk L U = z := ⟨_, rfl⟩
  rw [hz] at HC HOk
  have HZ := hideP hz
  clear hz
  go_enter Try.func14, Try.ntmps14
  go_wp2_with fail
  refine (HC.out _ F0.out).mono ?_
  rintro _ w1 ⟨rfl, f1⟩
  have F1 := hideP (F0.out.trans f1)
  have HB1 := hideP (HB.out.fr f1)
  clear f1 x0 x1
  have x0 := HB1.out.cell 0 (u := .slice pa L.length pc) rfl
  have x1 := HB1.out.cell 1 (u := .slice qa U.length qc) rfl
  by_cases h0 : z = 0
  case neg =>
    have g1 : ((z : Int) != 0) = true := by simp; omega
    have g2 : ¬ ((z : Int) = 0) := by omega
    go_wp2_with fail
    go_ret2
    exact ⟨.inl ⟨by rw [HZ.out]; exact h0, by rw [HZ.out]; rfl⟩, F1.out⟩
  subst h0
  obtain ⟨e1, e2, e3, e4, e5⟩ := HOk.out (by trivial)
  go_wp2_with fail
  refine (pairsT_any _ _ _).mono ?_
  rintro _ w2 ⟨rfl, hw2⟩
  have hcT : w2.cell? ⟨w1.heap.size, 0, none⟩ = some (.slice pa L.length pc) := by rw [hw2]; exact (Blk.new w1 #[.slice pa L.length pc, .slice qa U.length qc] 25).cell 0 rfl
  have hlt : w1.heap.size < w2.heap.size := by rw [hw2]; simp
  have F2 := hideP (show Fr w w2 by rw [hw2]; exact F1.out.alloc _)
  clear hw2
  have HCl := hideP (collectP_any w1.heap.size _ L (by omega) (fun r hr => by have := TK.lE_len e3 r hr; omega) w2 hlt hcT (HI.out.l.fr F2.out) (by omega))
  clear hcT hlt e1 e2 e3 e4 e5
  go_wp2_with fail
  refine HCl.out.mono ?_
  rintro _ w3 ⟨u, rfl, hown, f3⟩
  rw [HM.out] at hown
  have HO := hideP (own_low hown F2.out.size)
  have F3 := hideP (F2.out.trans f3)
  obtain ⟨ua, uc, rfl⟩ := own_slice hown
  clear hown f3
  go_wp2_with fail
  go_ret2
  exact ⟨.inr ⟨HZ.out, .slice ua m uc, rfl, by rw [HM.out]; exact HO.out⟩, F3.out⟩
end Go.Proofs.Ytmemapfboefngaa
