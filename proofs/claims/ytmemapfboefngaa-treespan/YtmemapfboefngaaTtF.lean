/-
  slices.Grow of nothing and slices.Concat, at pairs.
-/
import Derived.Test.YtmemapfboefngaaGtF
import Derived.Lib.AppendZeros
namespace Go.Proofs.Ytmemapfboefngaa
open Go.ChangeShapes Go.WideShapes Go.ChangeAt Go.RowKit
set_option linter.unusedVariables false
set_option linter.unusedSimpArgs false
set_option maxRecDepth 100000
set_option maxHeartbeats 4000000
theorem growP_any (n : Nat) (w : World) (hn : n ≤ 100000) :
    Calls Try.prog 89 #[.slice none 0 0, .int .i64 (n : Int)] w fun e w' => ∃ v', e = .returned v' ∧ w'.ownsRow w.heap.size 38 2 v' 0 [] ∧ Fr w w' := by
  obtain ⟨i0, hi, hz0, hz1, hz2⟩ := info_parts Try.infoPr
  by_cases h0 : n = 0
  · subst h0
    go_enter Try.func89, Try.ntmps89
    go_wp2_with fail
    go_ret
    exact ⟨_, rfl, World.ownsRow_nil _ _ _ _, Fr.refl _⟩
  · have hp : (0 : Int) < (n : Int) := by omega
    have hnn : 0 ≤ (n : Int) := by omega
    have hge := grownCap_ge w n 0 38
    have hle := grownCap_le_maxLen w n 0 38 (by unfold maxLen; omega)
    have hrun := fun ty => Lib.run_append_nil_zeros (P := Try.prog) w 28 3 ty 38 i0 (.agg #[.string ⟨#[]⟩, .int .i64 0]) .i64 .i64 Try.underlying28 (by kernel_rfl) hi hz0 n (by omega) (by rw [hz1]; decide) (by omega) (by rw [hz2]; omega)
    generalize hC : grownCap w n 0 38 = C at *
    have HOw := hideP (show (w.drew.alloc (.cells (Builtin.zeroCells (Value.agg #[.string ⟨#[]⟩, .int .i64 0]).cells n ++ Builtin.zeroCells (Value.agg #[.string ⟨#[]⟩, .int .i64 0]).cells (C - n)) 38)).ownsRow w.heap.size 38 2 (.slice (some ⟨w.heap.size, 0, none⟩) 0 C) 0 [] from
      World.ownsRow_made w.drew _ C (Nat.le_refl _) hle (by
        rw [Array.size_append, size_zeroCells, size_zeroCells]
        have : (Value.agg #[.string ⟨#[]⟩, .int .i64 0]).cells.size = 2 := rfl
        rw [this, ← Nat.add_mul]
        congr 1
        omega))
    have HFr := hideP (Fr.alloc (Fr.drew (Fr.refl w)) (.cells (Builtin.zeroCells (Value.agg #[.string ⟨#[]⟩, .int .i64 0]).cells n ++ Builtin.zeroCells (Value.agg #[.string ⟨#[]⟩, .int .i64 0]).cells (C - n)) 38))
    generalize w.drew.alloc (.cells (Builtin.zeroCells (Value.agg #[.string ⟨#[]⟩, .int .i64 0]).cells n ++ Builtin.zeroCells (Value.agg #[.string ⟨#[]⟩, .int .i64 0]).cells (C - n)) 38) = w1 at *
    have HRun := hideP hrun
    clear hrun hC
    go_enter Try.func89, Try.ntmps89
    go_wp2_with (at_builtin; refine Lib.wpList_append_run _ rfl _ _ _ _ rfl _ _ rfl rfl _ _ (HRun.out _) ?_)
    all_goals (
      go_ret
      exact ⟨_, rfl, HOw.out, HFr.out⟩)
theorem IsL.len_eq {α : Type} {E : Cd α} {w : World} {x : Sq} {l : List α} (h : IsL E w x.v l) : x.n = l.length := by
  obtain ⟨a, c, e, _⟩ := h
  unfold Sq.v at e
  injection e
namespace TK
def sm (l : List Nat) : Nat := l.foldr (· + ·) 0
theorem sm_app (a b : List Nat) : sm (a ++ b) = sm a + sm b := by
  induction a with
  | nil => simp [sm]
  | cons x a ih => simp only [List.cons_append, sm, List.foldr_cons] at *; omega
theorem sm_take (l : List Nat) (i : Nat) : sm (l.take i) ≤ sm l := by
  have := sm_app (l.take i) (l.drop i)
  rw [List.take_append_drop] at this
  omega
def tot (ls : List (List TK.Pr)) : Nat := sm (ls.map List.length)
theorem tot_flat (ls : List (List TK.Pr)) : ls.flatten.length = tot ls := by
  induction ls with
  | nil => rfl
  | cons x r ih => simp only [List.flatten_cons, List.length_append, ih, tot, List.map_cons, sm, List.foldr_cons]
theorem tot_step (ls : List (List TK.Pr)) (i : Nat) (h : i < ls.length) : tot (ls.take (i + 1)) = tot (ls.take i) + ls[i].length := by
  unfold tot
  rw [List.take_succ_eq_append_getElem h, List.map_append, sm_app]
  simp [sm]
theorem tot_take (ls : List (List TK.Pr)) (i : Nat) : tot (ls.take i) ≤ tot ls := by
  unfold tot
  rw [List.map_take]
  exact sm_take _ _
theorem flat_step (ls : List (List TK.Pr)) (i : Nat) (h : i < ls.length) : (ls.take (i + 1)).flatten = (ls.take i).flatten ++ ls[i] := by
  rw [List.take_succ_eq_append_getElem h, List.flatten_append]
  simp
end TK
theorem concatP_any (v : Value) (ls : List (List TK.Pr)) (w : World) (h : IsLL cdPr w v ls) (hl : ls.length ≤ 1000) (ht : TK.tot ls ≤ 10000) :
    Calls Try.prog 86 #[v] w fun e w' => ∃ v', e = .returned v' ∧ w'.ownsRow w.heap.size 38 2 v' ls.flatten.length (flat cdPr ls.flatten) ∧ Fr w w' := by
  obtain ⟨i0, hi0, hz0, hz1, hz2⟩ := info_parts Try.infoPr
  obtain ⟨qs, hq, hqn, hqs⟩ := h
  obtain ⟨a, cap, rfl, hcap, hcs⟩ := hq
  have HC := hideP hcs
  have HQ := hideP hqs
  have HQn := hideP hqn
  have HTk := hideP (fun i => TK.tot_take ls i)
  rw [hqn] at hcap ⊢
  clear hcs hqs hqn
  go_enter Try.func86, Try.ntmps86
  go_wp2_with fail
  go_loopw [3, 5, 11] (fun sv _ iv wr => ∃ i : Nat, iv = .int .i64 i ∧ i ≤ ls.length ∧ sv = .int .i64 ((TK.tot (ls.take i) : Nat) : Int) ∧ wr = w) (fun _ _ iv _ => ls.length - (intOf iv).toNat)
  case atStart => exact ⟨0, rfl, Nat.zero_le _, rfl, rfl⟩
  case round =>
    obtain ⟨i, rfl, hi, rfl, rfl⟩ := hrel
    by_cases hlt : i < ls.length
    · have hlt' : (i : Int) < (ls.length : Int) := by omega
      have hltq : i < qs.length := by rw [HQn.out]; exact hlt
      obtain ⟨b, o, rfl, hb, hc⟩ : ∃ b o, a = some ⟨b, o, none⟩ ∧ b < wr.heap.size ∧ At cdS wr b o qs := by
        rcases HC.out with h | h
        · rw [h] at hltq; simp at hltq
        · exact h
      have c0 := hc.s1 i hltq
      have hlen := (HQ.out i hltq hlt).len_eq
      have hst := TK.tot_step ls i hlt
      have hbd := HTk.out (i + 1)
      rw [← hlen] at hst
      generalize qs[i] = x at *
      obtain ⟨xa, xn, xc⟩ := x
      simp only at c0 hst
      generalize TK.tot (ls.take i) = m at *
      generalize hm' : TK.tot (ls.take (i + 1)) = m' at *
      have HT := hideP hst
      have HT2 := hideP hm'
      have hsum : (m : Int) + (xn : Int) ≤ 10000 := by omega
      have hpos : 0 ≤ (m : Int) + (xn : Int) := by omega
      clear hc hst hm' hlen
      go_wp2_with fail
      go_roundw
      case rel => exact ⟨i + 1, by go_num, by omega, by rw [HT2.out, HT.out]; first | (go_num; done) | (simp; omega), by first | rfl | trivial⟩
      case measure => simp [intOf]; omega
    · obtain rfl : i = ls.length := by omega
      have hlt' : ((ls.length : Int) < (ls.length : Int)) = False := by simp
      rw [List.take_length]
      have HG := hideP (growP_any (TK.tot ls) wr (by omega))
      go_wp2_with fail
      refine HG.out.mono ?_
      rintro _ w1 ⟨v1, rfl, hown1, f1⟩
      have HO1 := hideP hown1
      have F1 := hideP f1
      clear hown1 f1
      go_wp2_with fail
      obtain ⟨w0, rfl⟩ : ∃ x, x = wr := ⟨_, rfl⟩
      go_loopw [6, 8, 27] (fun fv _ iv W => ∃ i : Nat, iv = .int .i64 i ∧ i ≤ ls.length ∧ W.ownsRow w0.heap.size 38 2 fv (ls.take i).flatten.length (flat cdPr (ls.take i).flatten) ∧ Fr w0 W) (fun _ _ iv _ => ls.length - (intOf iv).toNat)
      case atStart => exact ⟨0, rfl, Nat.zero_le _, HO1.out, F1.out⟩
      case round =>
        obtain ⟨i, rfl, hi, hown, hfr⟩ := hrel
        obtain ⟨fa, fc, rfl⟩ := own_slice hown
        have HO := hideP hown
        have HF := hideP hfr
        have hsz := hfr.size
        clear hown hfr
        by_cases hlt : i < ls.length
        · have hlt' : (i : Int) < (ls.length : Int) := by omega
          have hltq : i < qs.length := by rw [HQn.out]; exact hlt
          obtain ⟨b, o, rfl, hb, hc⟩ : ∃ b o, a = some ⟨b, o, none⟩ ∧ b < w0.heap.size ∧ At cdS w0 b o qs := by
            rcases HC.out with h | h
            · rw [h] at hltq; simp at hltq
            · exact h
          have c0 := (hc.fr hb HF.out).s1 i hltq
          have hisl := (HQ.out i hltq hlt).fr HF.out
          have hst := TK.flat_step ls i hlt
          have hln : (ls.take i).flatten.length + ls[i].length ≤ 10000 := by
            have h1 := TK.tot_step ls i hlt
            have h2 := HTk.out (i + 1)
            rw [TK.tot_flat]
            omega
          generalize ls[i] = l at *
          generalize qs[i] = x at *
          obtain ⟨xa, xn, xc⟩ := x
          simp only [Sq.v] at c0 hisl
          generalize (ls.take i).flatten = fs at *
          generalize hfs : (ls.take (i + 1)).flatten = fs' at *
          have HIs := hideP hisl
          have HS := hideP hst
          have HFs := hideP hfs
          obtain ⟨m, hm⟩ : ∃ m, fs.length = m := ⟨_, rfl⟩
          have HMm := hideP hm
          rw [hm] at HO hln ⊢
          clear hc hisl hst hfs hm
          go_wp2_with (at_builtin; refine wpList_append_L cdPr rfl _ _ 28 38 i0 _ 24 rfl Try.underlying28 hi0 hz0 hz1 hz2 rfl w0.heap.size _ m fs rfl HO.out (.slice xa xn xc) l rfl HIs.out ?c3 ?c4 ?c5 ?_)
          case c3 => unfold maxLen; omega
          case c4 => omega
          case c5 => exact hsz
          intro v2 wB own2 gr2
          have HN2 := hideP (show wB.ownsRow w0.heap.size 38 2 v2 fs'.length (flat cdPr fs') from by
            rw [HS.out, List.length_append, HMm.out]
            exact own2)
          have FB := hideP (show Fr w0 wB from Below.grown HF.out gr2 hsz (own_base HO.out))
          clear own2 gr2
          go_wp2_with fail
          go_roundw
          case rel => exact ⟨i + 1, by go_num, by omega, by rw [HFs.out]; exact HN2.out, FB.out⟩
          case measure => simp [intOf]; omega
        · obtain rfl : i = ls.length := by omega
          have hlt' : ((ls.length : Int) < (ls.length : Int)) = False := by simp
          rw [List.take_length] at HO ⊢
          go_wp2_with fail
          go_ret
          exact ⟨_, rfl, HO.out, HF.out⟩
end Go.Proofs.Ytmemapfboefngaa
