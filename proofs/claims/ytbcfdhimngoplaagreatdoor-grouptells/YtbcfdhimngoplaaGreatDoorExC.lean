/-
  What checkNode of package expr answers.
-/
import Derived.Test.YtbcfdhimngoplaaGreatDoorGpD
namespace Go.Proofs.YtbcfdhimngoplaaGreatDoor
open Go.ChangeShapes Go.WideShapes Go.ChangeAt Go.RowKit
set_option linter.unusedVariables false
set_option linter.unusedSimpArgs false
set_option maxRecDepth 100000
set_option maxHeartbeats 2000000
theorem size_nil {s : ByteArray} (h : s.size = 0) : s = ⟨#[]⟩ := by
 have := (toList_nil s).2 h
 rw [ByteArray.toList_eq] at this
 cases s
 simp_all
theorem size_some {s : ByteArray} (h : ¬ s.size = 0) : (s.toList == []) = false ∧ (s.toList != []) = true ∧ ¬ s.toList = [] := by
 have h3 : ¬ s.toList = [] := by rw [toList_nil]; exact h
 exact ⟨by simpa using h3, by simpa using h3, h3⟩
theorem nchk_ways (n : EX.Nd) (z : Nat) (h : EX.nchk n = z) :
  (n.op < 1 ∧ z = 7) ∨ (25 < n.op ∧ z = 7) ∨ (1 ≤ n.op ∧ n.op ≤ 25 ∧ n.kids < EX.kl n.op ∧ z = 1) ∨ (1 ≤ n.op ∧ n.op ≤ 25 ∧ EX.kl n.op ≤ n.kids ∧ EX.km n.op < n.kids ∧ z = 1) ∨
  ((1 ≤ n.op ∧ n.op ≤ 25 ∧ EX.kl n.op ≤ n.kids ∧ n.kids ≤ EX.km n.op) ∧
   ((n.op ≠ 1 ∧ EX.isNul n.v = false ∧ z = 1) ∨ (n.op = 1 ∧ n.nm.size ≠ 0 ∧ z = 1) ∨ (n.op ≠ 1 ∧ n.op ≠ 2 ∧ EX.isNul n.v = true ∧ n.nm.size ≠ 0 ∧ z = 1) ∨
   (n.op = 1 ∧ n.nm.size = 0 ∧ z = EX.lchk n.v) ∨ (n.op = 2 ∧ EX.isNul n.v = true ∧ z = (if LX.nm n.nm.data.toList = true then 0 else 1)) ∨ (n.op ≠ 1 ∧ n.op ≠ 2 ∧ EX.isNul n.v = true ∧ n.nm.size = 0 ∧ z = 0))) := by
 subst h
 unfold EX.nchk
 by_cases h1 : n.op < 1
 · rw [if_pos (.inl h1)]; exact .inl ⟨h1, rfl⟩
 by_cases h2 : 25 < n.op
 · rw [if_pos (.inr h2)]; exact .inr (.inl ⟨h2, rfl⟩)
 rw [if_neg (by omega)]
 by_cases h3 : n.kids < EX.kl n.op
 · rw [if_pos (.inl h3)]; exact .inr (.inr (.inl ⟨by omega, by omega, h3, rfl⟩))
 by_cases h4 : EX.km n.op < n.kids
 · rw [if_pos (.inr h4)]; exact .inr (.inr (.inr (.inl ⟨by omega, by omega, by omega, h4, rfl⟩)))
 rw [if_neg (by omega)]
 refine .inr (.inr (.inr (.inr ⟨⟨by omega, by omega, by omega, by omega⟩, ?_⟩)))
 by_cases g1 : n.op = 1
 ·
  rw [if_neg (by simp [g1])]
  by_cases g2 : n.nm.size = 0
  · rw [if_neg (by simp [g2]), if_pos g1]; exact .inr (.inr (.inr (.inl ⟨g1, g2, rfl⟩)))
  · rw [if_pos ⟨by omega, g2⟩]; exact .inr (.inl ⟨g1, g2, rfl⟩)
 ·
  cases g2 : EX.isNul n.v with
  | false => rw [if_pos ⟨g1, rfl⟩]; exact .inl ⟨g1, rfl, rfl⟩
  | true =>
   rw [if_neg (by simp)]
   by_cases g3 : n.op = 2
   ·
    rw [if_neg (by simp [g3]), if_neg g1]
    refine .inr (.inr (.inr (.inr (.inl ⟨g3, rfl, ?_⟩))))
    cases LX.nm n.nm.data.toList with
    | true => simp
    | false => simp [g3]
   ·
    by_cases g4 : n.nm.size = 0
    · rw [if_neg (by simp [g4]), if_neg g1, if_neg (by simp [g3])]; exact .inr (.inr (.inr (.inr (.inr ⟨g1, g3, rfl, g4, rfl⟩))))
    · rw [if_pos ⟨g3, g4⟩]; exact .inr (.inr (.inl ⟨g1, g3, rfl, g4, rfl⟩))
theorem nul_of {v : VM.Vl} (h : EX.isNul v = true) : v = EX.nul := by
 unfold EX.isNul at h
 simp only [Bool.and_eq_true, decide_eq_true_eq] at h
 obtain ⟨k, n, s⟩ := v
 simp only at h
 obtain ⟨rfl, rfl, h3⟩ := h
 rw [size_nil h3]
 rfl
theorem nul_not {v : VM.Vl} (h : EX.isNul v = false) : v.k ≠ 0 ∨ (v.k = 0 ∧ v.n ≠ 0) ∨ (v.k = 0 ∧ v.n = 0 ∧ v.s.size ≠ 0) := by
 unfold EX.isNul at h
 by_cases h1 : v.k = 0
 ·
  by_cases h2 : v.n = 0
  ·
   by_cases h3 : v.s.size = 0
   · rw [decide_eq_true h1, decide_eq_true h2, decide_eq_true h3] at h; cases h
   · exact .inr (.inr ⟨h1, h2, h3⟩)
  · exact .inr (.inl ⟨h1, h2⟩)
 · exact .inl h1
theorem checkNode_any (n : EX.Nd) (w : World) (hn : n.nm.size ≤ 140737488355327) :
  Calls Tryz.prog 100 #[EX.val n] w fun e w' => e = .returned (.int .i64 (EX.nchk n)) ∧ Fr w w' := by
 have hw := nchk_ways n _ rfl
 have cl := fun W => checkLiteral_any n.v W
 have ck := fun W => kidsOf_any n.op W
 have cn := fun W => namesIs_any n.nm W hn
 generalize EX.nchk n = z at *
 generalize EX.lchk n.v = lc at *
 obtain ⟨op, kids, ⟨vk, vn, vs⟩, nm⟩ := n
 simp only [EX.val] at *
 generalize EX.kl op = kl at *
 generalize EX.km op = km at *
 generalize LX.nm nm.data.toList = q at *
 have F0 := fun (o : Obj) => hideP ((Fr.refl w).alloc o)
 rcases hw with ⟨h1, rfl⟩ | ⟨h1, rfl⟩ | ⟨h1, h2, h3, rfl⟩ | ⟨h1, h2, h3, h4, rfl⟩ | ⟨⟨h1, h2, h3, h4⟩, hw⟩
 ·
  go_enter Tryz.func100, Tryz.ntmps100
  go_wp2_with fail
  go_ret
  exact ⟨rfl, (F0 _).out⟩
 ·
  have h0 : ¬ op < 1 := by omega
  go_enter Tryz.func100, Tryz.ntmps100
  go_wp2_with fail
  go_ret
  exact ⟨rfl, (F0 _).out⟩
 ·
  have g1 : ¬ op < 1 := by omega
  have g2 : ¬ 25 < op := by omega
  go_enter Tryz.func100, Tryz.ntmps100
  go_wp2_with fail
  refine (ck _).mono ?_
  rintro _ w1 ⟨rfl, rfl⟩
  go_wp2_with fail
  go_ret
  exact ⟨rfl, (F0 _).out⟩
 ·
  have h3' : ¬ kids < kl := by omega
  have g1 : ¬ op < 1 := by omega
  have g2 : ¬ 25 < op := by omega
  go_enter Tryz.func100, Tryz.ntmps100
  go_wp2_with fail
  refine (ck _).mono ?_
  rintro _ w1 ⟨rfl, rfl⟩
  go_wp2_with fail
  go_ret
  exact ⟨rfl, (F0 _).out⟩
 ·
  have h3' : ¬ kids < kl := by omega
  have h4' : ¬ km < kids := by omega
  rcases hw with ⟨a1, a2, rfl⟩ | ⟨rfl, a2, rfl⟩ | ⟨a1, a2, a3, a4, rfl⟩ | ⟨rfl, a2, rfl⟩ | ⟨rfl, a2, rfl⟩ | ⟨a1, a2, a3, a4, rfl⟩
  ·
   have b1 : (op != 1) = true := by simpa using a1
   have b2 : (op == 1) = false := by simpa using a1
   rcases nul_not a2 with c1 | ⟨c1, c2⟩ | ⟨c1, c2, c3⟩
   ·
    simp only at c1
    have d1 : (vk == 0) = false := by simpa using c1
    have d2 : (vk != 0) = true := by simpa using c1
    clear a2
    have g1 : ¬ op < 1 := by omega
    have g2 : ¬ 25 < op := by omega
    go_enter Tryz.func100, Tryz.ntmps100
    go_wp2_with fail
    refine (ck _).mono ?_
    rintro _ w1 ⟨rfl, rfl⟩
    go_wp2_with fail
    go_ret
    exact ⟨rfl, (F0 _).out⟩
   ·
    simp only at c1 c2
    subst c1
    have d1 : (vn == 0) = false := by simpa using c2
    have d2 : (vn != 0) = true := by simpa using c2
    clear a2
    have g1 : ¬ op < 1 := by omega
    have g2 : ¬ 25 < op := by omega
    go_enter Tryz.func100, Tryz.ntmps100
    go_wp2_with fail
    refine (ck _).mono ?_
    rintro _ w1 ⟨rfl, rfl⟩
    go_wp2_with fail
    go_ret
    exact ⟨rfl, (F0 _).out⟩
   ·
    simp only at c1 c2 c3
    subst c1 c2
    obtain ⟨d1, d2, d3⟩ := size_some c3
    clear a2
    have g1 : ¬ op < 1 := by omega
    have g2 : ¬ 25 < op := by omega
    go_enter Tryz.func100, Tryz.ntmps100
    go_wp2_with fail
    refine (ck _).mono ?_
    rintro _ w1 ⟨rfl, rfl⟩
    go_wp2_with fail
    go_ret
    exact ⟨rfl, (F0 _).out⟩
  ·
   obtain ⟨d1, d2, d3⟩ := size_some a2
   clear a2
   go_enter Tryz.func100, Tryz.ntmps100
   go_wp2_with fail
   refine (ck _).mono ?_
   rintro _ w1 ⟨rfl, rfl⟩
   go_wp2_with fail
   go_ret
   exact ⟨rfl, (F0 _).out⟩
  ·
   obtain ⟨d1, d2, d3⟩ := size_some a4
   have hv := nul_of a3
   simp only [EX.nul, VM.Vl.mk.injEq] at hv
   obtain ⟨rfl, rfl, rfl⟩ := hv
   have b1 : (op != 1) = true := by simpa using a1
   have b3 : (op != 2) = true := by simpa using a2
   clear a3 a4
   have g1 : ¬ op < 1 := by omega
   have g2 : ¬ 25 < op := by omega
   go_enter Tryz.func100, Tryz.ntmps100
   go_wp2_with fail
   refine (ck _).mono ?_
   rintro _ w1 ⟨rfl, rfl⟩
   go_wp2_with fail
   go_ret
   exact ⟨rfl, (F0 _).out⟩
  ·
   obtain rfl := size_nil a2
   clear a2
   go_enter Tryz.func100, Tryz.ntmps100
   go_wp2_with fail
   refine (ck _).mono ?_
   rintro _ w1 ⟨rfl, rfl⟩
   go_wp2_with fail
   refine (cl _).mono ?_
   rintro _ w2 ⟨rfl, f2⟩
   go_wp2_with fail
   go_ret
   exact ⟨rfl, (F0 _).out.trans f2⟩
  ·
   have hv := nul_of a2
   simp only [EX.nul, VM.Vl.mk.injEq] at hv
   obtain ⟨rfl, rfl, rfl⟩ := hv
   clear a2
   cases q
   all_goals (
    go_enter Tryz.func100, Tryz.ntmps100
    go_wp2_with fail
    refine (ck _).mono ?_
    rintro _ w1 ⟨rfl, rfl⟩
    go_wp2_with fail
    refine (cn _).mono ?_
    rintro _ w2 ⟨rfl, f2⟩
    go_wp2_with fail
    go_ret
    exact ⟨rfl, (F0 _).out.trans f2⟩)
  ·
   obtain rfl := size_nil a4
   have hv := nul_of a3
   simp only [EX.nul, VM.Vl.mk.injEq] at hv
   obtain ⟨rfl, rfl, rfl⟩ := hv
   have b1 : (op != 1) = true := by simpa using a1
   have b2 : (op == 1) = false := by simpa using a1
   have b3 : (op != 2) = true := by simpa using a2
   have b4 : (op == 2) = false := by simpa using a2
   clear a3 a4
   have g1 : ¬ op < 1 := by omega
   have g2 : ¬ 25 < op := by omega
   go_enter Tryz.func100, Tryz.ntmps100
   go_wp2_with fail
   refine (ck _).mono ?_
   rintro _ w1 ⟨rfl, rfl⟩
   go_wp2_with fail
   go_ret
   exact ⟨rfl, (F0 _).out⟩
end Go.Proofs.YtbcfdhimngoplaaGreatDoor
