/-
  What Read of package disk answers, for every disk: the writes that wait, the last one first.
-/
import Derived.Test.YtcgafodaohmcmaaDkE
import Derived.RangeFuncNested
import Derived.RangeFuncBound
import Derived.RangeFuncCalls
import Derived.RangeFuncLeaves
import Derived.Shelf.Abstract
import Derived.Shelf.RegionOpen
import Derived.OwnWalkIn
import Derived.TacticsInMore
import Derived.LoopNIn
import Derived.LoopIn
namespace Go.Proofs.Ytcgafodaohmcmaa
open Go.ChangeShapes Go.WideShapes Go.ChangeAt Go.RowKit Go.Shelf
set_option linter.unusedVariables false
set_option linter.unusedSimpArgs false
set_option maxRecDepth 100000
attribute [local go_sem] Oper.semAt_some

abbrev Bk := Nat × JN.W
def bkV (x : Bk) : Array Value := #[.int .i64 (x.1 : Int), .agg #[.int .i64 x.2.no, .string x.2.t]]
def bkF (wt : List JN.W) (j : Nat) : Bk := (wt.length - 1 - j, wt.reverse.getD j ⟨0, JN.bl⟩)
def upto (wt : List JN.W) (k : Nat) : List Bk := (List.range k).map (bkF wt)
theorem upto_succ (wt : List JN.W) (k : Nat) : upto wt (k + 1) = upto wt k ++ [bkF wt k] := by simp [upto, List.range_succ]
theorem upto_len (wt : List JN.W) (k : Nat) : (upto wt k).length = k := by simp [upto]
theorem bkF_at (wt : List JN.W) (k j : Nat) (h : k + (j + 1) = wt.length) : bkF wt k = (j, wt[j]) := by
  unfold bkF
  have e : wt.length - 1 - k = j := by omega
  rw [e, List.getD_eq_getElem?_getD, List.getElem?_reverse (by omega), List.getElem?_eq_getElem (by omega)]
  simp only [Option.getD_some, e]

set_option maxHeartbeats 2000000 in
theorem back1_in (n : Nat) (hn : 1 ≤ n) (l Bs n₀ : Nat) (a : Option Addr) (cap : Nat) (wt : List JN.W) (h48 : wt.length ≤ 48) (J Jx : List Bk → World → Prop)
    (hY : ∀ pre (x : Bk) W, J pre W → pre.length < wt.length → YieldAt Fence.wide (n - 1) Try.prog l (bkV x) W fun e W' =>
      (e = .returned (.bool true) ∧ J (pre ++ [x]) W' ∧ Below n₀ W W') ∨ (e = .returned (.bool false) ∧ Jx (pre ++ [x]) W'))
    (W : World) (hBs : Bs < n₀) (hc : W.cell? ⟨Bs, 0, none⟩ = some (.slice a wt.length cap)) (hcs : wt = [] ∨ ∃ b o, a = some ⟨b, o, none⟩ ∧ b < n₀ ∧ At cdW W b o wt) (h0 : J [] W) :
    CallsIn Fence.wide n Try.prog 26 #[.func (.yield l) #[] #[], .pointer (some ⟨Bs, 0, none⟩)] W fun e W' => (∃ v, e = .returned v) ∧
      ((∃ ys, ys = upto wt wt.length ∧ J ys W') ∨ (∃ pre, (∃ k, k ≤ wt.length ∧ pre = upto wt k) ∧ Jx pre W')) := by
  have HC := hideP hcs
  clear hcs
  refine callsIn_of_wp Try.func26 rfl trivial ?_ rfl
  simp only [Try.ntmps26, List.size_toArray, List.length_cons, List.length_nil, Nat.reduceAdd, Nat.reduceSub, Array.replicate_succ, Array.replicate_zero, List.push_toArray, List.append_toArray, List.nil_append, List.cons_append]
  gi_wp2
  gi_loopw [3] (fun i wr => ∃ k j : Nat, k + j = wt.length ∧ i = .int .i64 ((j : Int) - 1) ∧ J (upto wt k) wr ∧ Below n₀ W wr) (fun i _ => (intOf i + 1).toNat)
  case atStart => exact ⟨0, wt.length, by omega, by go_num, h0, Below.refl _ _⟩
  case round =>
    obtain ⟨k, j, hkj, rfl, hJs, hnx⟩ := hrel
    have hcr : wr.cell? ⟨Bs, 0, none⟩ = some (.slice a wt.length cap) := (hnx.cell (p := ⟨Bs, 0, none⟩) hBs).trans hc
    cases j with
    | zero =>
      have e0 : (((0 : Nat) : Int) - 1) = -1 := rfl
      rw [e0]
      have hk : k = wt.length := by omega
      subst hk
      gi_wp2
      go_end0
      exact ⟨⟨_, rfl⟩, .inl ⟨_, rfl, hJs⟩⟩
    | succ j =>
      have e0 : (((j + 1 : Nat) : Int) - 1) = (j : Int) := by omega
      rw [e0]
      have hjl : j < wt.length := by omega
      obtain ⟨b, o, rfl, hb, hcc⟩ : ∃ b o, a = some ⟨b, o, none⟩ ∧ b < n₀ ∧ At cdW W b o wt := by
        rcases HC.out with h | h
        · subst h; simp at hjl
        · exact h
      obtain ⟨c0', c1'⟩ := hcc.wr j hjl
      have c0 : wr.cell? ⟨b, o + j * 2, none⟩ = _ := (hnx.cell (p := ⟨b, o + j * 2, none⟩) hb).trans c0'
      have c1 : wr.cell? ⟨b, o + j * 2 + 1, none⟩ = _ := (hnx.cell (p := ⟨b, o + j * 2 + 1, none⟩) hb).trans c1'
      have hbk := bkF_at wt k j hkj
      obtain ⟨fn, tmps, assign, body, hy, hR⟩ := hY _ (j, wt[j]) wr hJs (by rw [upto_len]; omega)
      simp only [bkV] at hy
      have hjZ : (j : Int) < (wt.length : Int) := by omega
      have HBK := hideP hbk
      generalize hx : wt[j] = x at c0 c1 hy HBK hR
      obtain ⟨x1, x2⟩ := x
      simp only at c0 c1 hy
      clear c0' c1' hcc hbk hx e0
      gi_wp2
      refine hR.mono ?_
      rintro e W3 (⟨rfl, hJ3, hk3⟩ | ⟨rfl, hJx3⟩)
      · gi_wp2
        go_roundw
        case rel => exact ⟨k + 1, j, by omega, by go_num, by rw [upto_succ, HBK.out]; exact hJ3, hnx.trans hk3⟩
        case measure => first | (simp [intOf]; done) | (simp [intOf]; omega)
      · gi_wp2
        refine bodyPost_ret (results_none rfl _ _ _) rfl ?_
        exact ⟨⟨_, rfl⟩, .inr ⟨_, ⟨k + 1, by omega, by rw [upto_succ, HBK.out]⟩, hJx3⟩⟩

set_option maxHeartbeats 1000000 in
theorem backward_any (v : Value) (w : World) (h : ∃ a n c, v = .slice a n c) :
    Calls Try.prog 24 #[v] w fun e w' => e = .returned (.func (.func 26) #[] #[.pointer (some ⟨w.heap.size, 0, none⟩)]) ∧ w' = w.alloc (.cells #[v] 23) := by
  obtain ⟨a, n, c, rfl⟩ := h
  go_enter Try.func24, Try.ntmps24
  go_wp2
  go_ret
  exact ⟨rfl, rfl⟩
theorem back_stops (n : Nat) (hn : 1 ≤ n) (Bs : Nat) (v : Value) (wt : List JN.W) (h48 : wt.length ≤ 48) (w : World) (hBs : Bs < w.heap.size) (hc : w.cell? ⟨Bs, 0, none⟩ = some v) (hI : IsL cdW w v wt) :
    SeqStopsK Fence.wide n Try.prog 26 #[.pointer (some ⟨Bs, 0, none⟩)] bkV (Below w.heap.size) (fun ys => ys = upto wt wt.length) (fun pre => ∃ k, k ≤ wt.length ∧ pre = upto wt k) wt.length w :=
  fun l J Jx W hW _ _ hY h0 => by
    obtain ⟨a, cap, rfl, _, hcs⟩ := hI
    refine back1_in n hn l Bs w.heap.size a cap wt h48 J Jx hY W hBs ((hW.cell (p := ⟨Bs, 0, none⟩) hBs).trans hc) ?_ h0
    rcases hcs with h | ⟨b, o, rfl, hb, hh⟩
    · exact .inl h
    · exact .inr ⟨b, o, rfl, hb, fun j u hu => (hW.cell (p := ⟨b, o + j, none⟩) hb).trans (hh j u hu)⟩

namespace JN
/-- the last write to a place -/
def fnd (n : Nat) : List W → Option B
  | [] => .none
  | w :: l => if w.no.toNat = n then .some w.t else fnd n l
theorem land_fnd (p : Pg B) (n : Nat) : ∀ (r : List W), land p (r.reverse.map wn) all n = (fnd n r).getD (p n)
  | [] => rfl
  | w :: r => by
    have e : land p ((w :: r).reverse.map wn) all = upd (land p (r.reverse.map wn) all) w.no.toNat w.t := by
      rw [List.reverse_cons, List.map_append, List.map_cons, List.map_nil, land_snoc, if_pos (show all _ = true from rfl)]; rfl
    rw [e, fnd, upd]
    by_cases h : n = w.no.toNat
    · rw [if_pos h, if_pos h.symm]; rfl
    · rw [if_neg h, if_neg (Ne.symm h)]
      exact land_fnd p n r
theorem land_fnd' (p : Pg B) (n : Nat) (l : List W) : land p (l.map wn) all n = (fnd n l.reverse).getD (p n) := by
  rw [← land_fnd, List.reverse_reverse]
theorem fnd_pre {n : Nat} : ∀ (a : List W) (w : W) (b : List W), (∀ x ∈ a, x.no.toNat ≠ n) → w.no.toNat = n → fnd n (a ++ w :: b) = .some w.t
  | [], w, b, _, h => by simp [fnd, h]
  | x :: a, w, b, ha, h => by
    rw [List.cons_append, fnd, if_neg (ha x (by simp))]
    exact fnd_pre a w b (fun y hy => ha y (by simp [hy])) h
theorem fnd_none {n : Nat} : ∀ (a : List W), (∀ x ∈ a, x.no.toNat ≠ n) → fnd n a = .none
  | [], _ => rfl
  | x :: a, h => by rw [fnd, if_neg (h x (by simp))]; exact fnd_none a fun y hy => h y (by simp [hy])
end JN
theorem upto_snd (wt : List JN.W) (k : Nat) (hk : k ≤ wt.length) : (upto wt k).map Prod.snd = wt.reverse.take k := by
  apply List.ext_getElem (by simp [upto]; omega)
  intro i h1 h2
  simp only [upto, List.map_map, List.length_map, List.length_range] at h1
  simp only [upto, List.getElem_map, List.getElem_range, bkF, List.getElem_take]
  rw [List.getD_eq_getElem?_getD, List.getElem?_eq_getElem (by simp; omega)]; rfl

end Go.Proofs.Ytcgafodaohmcmaa
