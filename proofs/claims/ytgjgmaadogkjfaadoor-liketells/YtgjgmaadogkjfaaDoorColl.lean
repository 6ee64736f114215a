/-
  The pieces of a text as a list that a call makes: slices.Collect over the iterator, and Pieces of package like.
-/
import Derived.Test.YtgjgmaadogkjfaaDoorPcs
namespace Go.Proofs.YtgjgmaadogkjfaaDoor
open Go.ChangeShapes Go.WideShapes Go.ChangeAt Go.RowKit Go.Shelf
set_option linter.unusedVariables false
attribute [local go_sem] Oper.semAt_some

theorem Tryd.infoStr : (Tryd.prog.info? 9).map (fun i => (i.zero, i.size, i.bytes)) = some (some (.string ⟨#[]⟩), 1, 16) := by kernel_rfl
def sv (x : LK.Bs) : Value := .string ⟨x.toArray⟩
def strV (l : List LK.Bs) : List Value := l.map sv

set_option maxRecDepth 100000 in
set_option maxHeartbeats 2000000 in
theorem appendSeq_in (n : Nat) (hn : 3 ≤ n) (S : ByteArray) (hS : S.size ≤ 1073741824) (Bn : Nat) (w : World) (hBn : Bn < w.heap.size) (hc : w.cell? ⟨Bn, 0, none⟩ = some (.string S)) (hT : Tb w) :
    CallsIn Fence.wide n Tryd.prog 34 #[.slice none 0 0, .func (.func 35) #[] #[.pointer (some ⟨Bn, 0, none⟩)]] w fun e W' =>
      ∃ v, e = .returned v ∧ W'.ownsRow w.heap.size 9 1 v (LK.pc S.data.toList).length (strV (LK.pc S.data.toList)) ∧ Fr w W' := by
  have h1 : 1 ≤ n := by omega
  obtain ⟨i0, hi, hz0, hz1, hz2⟩ := info_parts Tryd.infoStr
  refine callsIn_of_wp_marks Tryd.func34 rfl trivial ?_ rfl
  simp only [Tryd.ntmps34, List.size_toArray, List.length_cons, List.length_nil, Nat.reduceAdd, Nat.reduceSub, Array.replicate_succ, Array.replicate_zero, List.push_toArray, List.append_toArray, List.nil_append, List.cons_append]
  gi_wp2
  have bO := Boxed.new w 28 (.slice none 0 0)
  have hB0 : Below w.heap.size w (w.alloc (.cells #[.slice none 0 0] 28)) := (Below.refl _ w).alloc (Nat.le_refl _) _
  have hlen : (LK.pc S.data.toList).length ≤ 1073741824 := by
    have h1 := LK.pc_len S.data.toList
    have h2 : S.data.toList.length = S.size := by rw [Array.length_toList]; rfl
    omega
  refine wpIn_rangeFunc_ownG rfl h1 (gf := 35) (lb := #[.pointer (some ⟨Bn, 0, none⟩)]) rfl trivial (enters_of Tryd.func35 (by kernel_rfl) rfl)
    (seq_stops (n - 1) (by omega) S (by omega) Bn w.heap.size _ hT.size (by simp) (by rw [← hc]; exact hB0.cell (p := ⟨Bn, 0, none⟩) hBn) (hT.fr hB0)) kp_t (kp_b (by simp) (by simp; omega)) (Below.refl _ _) (fun _ => rfl)
    (fun pre W => (∃ v, Boxed W w.heap.size 28 v ∧ W.ownsRow w.heap.size 9 1 v pre.length (strV pre) ∧ True) ∧ Below w.heap.size w W)
    (fun _ _ _ => False)
    (OwnFrom.and (Own.from (holdsRow_own w.heap.size w.heap.size 28 9 1 (fun pre => pre.length) (fun pre => strV pre) (fun pre v => True)) _) (ownFrom_below (Nat.le_refl _) (by simp)))
    (fun _ _ _ _ _ hs _ _ => hs)
    ⟨⟨_, bO, World.ownsRow_nil _ _ _ _, trivial⟩, hB0⟩
    (fun x => { tmps := #[.slice none 0 0, .func (.func 35) #[] #[.pointer (some ⟨Bn, 0, none⟩)], .pointer (some ⟨w.heap.size, 0, none⟩), undef, .slice none 0 0, .string ⟨x.toArray⟩, .func (.func 35) #[] #[.pointer (some ⟨Bn, 0, none⟩)], .string ⟨x.toArray⟩, undef, undef, undef, undef, undef], defers := [] }) ?assign ?body ?done ?stop
  case assign =>
    intro l x W K hK
    gi_wp2
    exact hK
  case body =>
    rintro l pre x W ⟨⟨v, hv, hrow, _⟩, hB⟩ hlt
    have hc := hv.cell
    gi_wp2_with (gi_at_builtin; refine wpListIn_append_own _ rfl _ _ 28 rfl w.heap.size 9 i0 (.string ⟨#[]⟩) 1 16 Tryd.underlying28 hi hz0 hz1 hz2 rfl (by decide) _ _ _ rfl (hrow.alloc _) ⟨W.heap.size, 0, none⟩ 1 1 [.string ⟨x.toArray⟩] rfl rfl (cell_one_new _ _ _) (by simp [Value.oneCell']) (by unfold maxLen; omega) (by omega) (by have := hB.size; simp; omega) ?_; intro v' w1 hown' hgrow _; obtain ⟨g', cap', rfl⟩ := ownsRow_succ hown'; obtain ⟨hv1, hv2, hr2, hk2, hb2⟩ := hv.appended (by decide) hrow hB.size (Nat.le_refl _) hown' hgrow; have hc1 := hv1.cell; have hf1 := hv1.frozen)
    exact ⟨hk2.from _, ⟨hb2, hb2.block Bn hBn⟩, ⟨_, hv2, by simpa [strV, sv] using hr2, trivial⟩, hB.trans hb2⟩
  case done =>
    rintro D ys W hD rfl ⟨⟨v, hv, hrow, _⟩, hB⟩ hK
    have hc := hv.cell
    gi_wp2
    refine ⟨by simp, .inl ⟨_, _, rfl, run_takeDeferred hK, ?_⟩⟩
    exact ⟨_, results_tmp rfl _ _ _, v, rfl, ownsRow_putObj hrow _ hK rfl, hB.trans (belowK_b (w := w) (Nat.le_refl _) W D _ _ (by simp at hD; omega) hK rfl rfl)⟩
  case stop =>
    rintro D c pre W _ _ h _
    exact h.elim

set_option maxRecDepth 100000 in
set_option maxHeartbeats 1000000 in
theorem collect_any (S : ByteArray) (hS : S.size ≤ 1073741824) (Bn : Nat) (w : World) (hBn : Bn < w.heap.size) (hc : w.cell? ⟨Bn, 0, none⟩ = some (.string S)) (hT : Tb w) :
    Calls Tryd.prog 25 #[.func (.func 35) #[] #[.pointer (some ⟨Bn, 0, none⟩)]] w fun e W' =>
      ∃ v, e = .returned v ∧ W'.ownsRow w.heap.size 9 1 v (LK.pc S.data.toList).length (strV (LK.pc S.data.toList)) ∧ Fr w W' := by
  have hA := callsIn_wide.1 (appendSeq_in 3 (Nat.le_refl _) S hS Bn w hBn hc hT)
  clear hc
  go_enter Tryd.func25, Tryd.ntmps25
  go_wp2_with (go_at_call 34; refine hA.mono ?_)
  rintro _ w1 ⟨v, rfl, hr, hf⟩
  go_wp2
  go_ret
  exact ⟨v, rfl, hr, hf⟩

/-- a slice value stands for a list of texts -/
def IsTx (w : World) (v : Value) (l : List LK.Bs) : Prop :=
  ∃ (a : Option Addr) (cap : Nat), v = .slice a l.length cap ∧ l.length ≤ cap ∧ (l = [] ∨ ∃ b, a = some ⟨b, 0, none⟩ ∧ b < w.heap.size ∧ ∀ i x, l[i]? = some x → w.cell? ⟨b, i, none⟩ = some (sv x))
theorem IsTx.fr {w w' : World} {v : Value} {l : List LK.Bs} (h : IsTx w v l) (f : Fr w w') : IsTx w' v l := by
  obtain ⟨a, cap, rfl, hc, h0 | ⟨b, rfl, hb, hcl⟩⟩ := h
  · exact ⟨a, cap, rfl, hc, Or.inl h0⟩
  · exact ⟨_, cap, rfl, hc, Or.inr ⟨b, rfl, Nat.lt_of_lt_of_le hb f.size, fun i x hi => (Below.cell f (p := ⟨b, i, none⟩) hb).trans (hcl i x hi)⟩⟩
theorem tx_of_own {w : World} {base : Nat} {v : Value} {l : List LK.Bs} (h : w.ownsRow base 9 1 v l.length (strV l)) : IsTx w v l := by
  have hl := h.1
  rcases h.2 with ⟨rfl, h0⟩ | ⟨g, cap, cur, rfl, hb, hg, h2⟩
  · have : l = [] := List.eq_nil_of_length_eq_zero h0
    subst this
    exact ⟨none, 0, rfl, Nat.le_refl _, Or.inl rfl⟩
  · obtain ⟨h3, h4, h5, h6⟩ := h2
    refine ⟨_, cap, rfl, h3, Or.inr ⟨g, rfl, (Array.getElem?_eq_some_iff.1 hg).1, fun i x hi => ?_⟩⟩
    have hil := (List.getElem?_eq_some_iff.1 hi).1
    have : (strV l)[i]? = some (sv x) := by unfold strV; rw [List.getElem?_map, hi]; rfl
    rw [← h6, List.getElem?_take, if_pos (by omega), Array.getElem?_toList] at this
    simp [World.cell?, hg, this]

set_option maxRecDepth 100000 in
set_option maxHeartbeats 1000000 in
/-- Pieces -/
theorem likePieces_any (S : ByteArray) (w : World) (hb : S.size ≤ 9223372036854775807) (hT : Tb w) :
    Calls Tryd.prog 14 #[.string S] w fun e W' => ∃ v l, e = .returned (.tuple #[v, .int .i64 (if 16 < S.size then 2 else 0)]) ∧ l = (if 16 < S.size then [] else LK.pc S.data.toList) ∧ IsTx W' v l ∧ Fr w W' := by
  by_cases h16 : 16 < S.size
  · have hz : (16 : Int) < (S.size : Int) := by omega
    rw [if_pos h16, if_pos h16]
    go_enter Tryd.func14, Tryd.ntmps14
    go_wp2
    go_ret2
    exact ⟨_, [], rfl, rfl, ⟨none, 0, rfl, Nat.le_refl _, Or.inl rfl⟩, Fr.refl _⟩
  · have hz : ¬ (16 : Int) < (S.size : Int) := by omega
    rw [if_neg h16, if_neg h16]
    have hp := pieces_any S w
    have f1 : Fr w (w.alloc (.cells #[.string S] 9)) := (Fr.refl w).alloc _
    have hcl := collect_any S (by omega) w.heap.size (w.alloc (.cells #[.string S] 9)) (by simp) (by simp) (hT.fr f1)
    go_enter Tryd.func14, Tryd.ntmps14
    go_wp2_with (go_at_call 26; refine hp.mono ?_; rintro _ _ ⟨rfl, rfl⟩)
    refine hcl.mono ?_
    rintro _ w2 ⟨v, rfl, hr, hf⟩
    go_wp2
    go_ret2
    exact ⟨v, _, rfl, rfl, tx_of_own hr, f1.trans hf⟩
end Go.Proofs.YtgjgmaadogkjfaaDoor
