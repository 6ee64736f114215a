/-
  What the document's own PushedOf answers.
-/
import Derived.Test.YtjboeabddnnlcaaGreatDoorReF
import Derived.Test.YtjboeabddnnlcaaGreatDoorEwE
namespace Go.Proofs.YtjboeabddnnlcaaGreatDoor
open Go.ChangeShapes Go.WideShapes Go.ChangeAt Go.RowKit
set_option linter.unusedVariables false
set_option linter.unusedSimpArgs false
set_option maxRecDepth 100000
set_option maxHeartbeats 2000000

theorem pushedOf_any (v : Value) (e : List EX.Nd) (w : World) (h : IsL cdN w v e) (hn : ∀ n ∈ e, n.nm.size ≤ 140737488355327) (hl : e.length ≤ 9223372036854775806) :
    Calls Tryz.prog 28 #[v] w fun r w' => PsAns e w.heap.size r w' ∧ Fr w w' := by
  have HC := hideP (rexprCheck_any v e w h hn hl)
  unfold PsAns
  by_cases h0 : EX.ck e = 0
  · obtain ⟨n, k, he, hg, hd, hl60⟩ := EX.ck_tree h0
    have hps : EV.psh e = (EV.pf false (.nd n k .nil)).flat := by rw [he]; unfold EV.psh; rw [EX.tre_of hg.right]
    have HPn := hideP (fun W (g : Fr w W) => (rpTo ((k.flat ++ [n]).length + 1)).1 n k v W (by omega) hg (by rw [← he]; exact hl60) (by rw [← he]; exact h.fr g))
    unfold RpAns at HPn
    rw [← hps] at HPn
    have hlen := EV.pf_flat_len (.nd n k .nil) false
    rw [← hps] at hlen
    have el : (EX.F.nd n k .nil).flat = k.flat ++ [n] := rfl
    rw [el, ← he] at hlen
    have hnm : ∀ x ∈ EV.psh e, x.nm.size ≤ 140737488355327 := by
      rw [hps]
      refine EV.pf_nm (.nd n k .nil) false ?_
      rw [el, ← he]
      exact hn
    have HC2 := hideP (fun W u (hu : IsL cdN W u (EV.psh e)) => rexprCheck_any u (EV.psh e) W hu hnm (by omega))
    rw [h0] at HC ⊢
    simp only [ne_eq, not_true, false_and, false_or, true_and]
    obtain ⟨a, cap, rfl, hcap, hcs⟩ := h
    generalize EV.psh e = m at *
    generalize e.length = L at *
    clear hcs hn hl hg hd hnm el he hps h0
    obtain ⟨M, hM⟩ : ∃ M, m.length = M := ⟨_, rfl⟩
    have HMl := hideP hM
    rw [hM] at HPn hlen ⊢
    clear hM
    by_cases h1 : EX.ck m = 0
    · rw [h1] at HC2 ⊢
      simp only [ne_eq, not_true, false_and, false_or, true_and]
      go_enter Tryz.func28, Tryz.ntmps28
      go_wp2_with fail
      refine HC.out.mono ?_
      rintro _ w1 ⟨rfl, f1⟩
      have F1 := hideP f1
      clear f1
      go_wp2_with fail
      refine (HPn.out _ F1.out).mono ?_
      rintro _ w2 ⟨⟨u, rfl, own2⟩, f2⟩
      obtain ⟨ua, uc, rfl⟩ := own_slice own2
      have HO := hideP (own_low own2 F1.out.size)
      have F2 := hideP (F1.out.trans f2)
      have HCa := hideP (HC2.out w2 _ (isL_own (E := cdN) (by rw [HMl.out]; exact own2)))
      clear own2 f2
      go_wp2_with fail
      refine HCa.out.mono ?_
      rintro _ w3 ⟨rfl, f3⟩
      go_wp2_with fail
      go_ret2
      exact ⟨⟨_, rfl, own_fr HO.out f3⟩, F2.out.trans f3⟩
    · have e1 : ((EX.ck m : Int) != 0) = true := by simp; omega
      have e2 : ¬ ((EX.ck m : Int) = 0) := by omega
      go_enter Tryz.func28, Tryz.ntmps28
      go_wp2_with fail
      refine HC.out.mono ?_
      rintro _ w1 ⟨rfl, f1⟩
      have F1 := hideP f1
      clear f1
      go_wp2_with fail
      refine (HPn.out _ F1.out).mono ?_
      rintro _ w2 ⟨⟨u, rfl, own2⟩, f2⟩
      obtain ⟨ua, uc, rfl⟩ := own_slice own2
      have F2 := hideP (F1.out.trans f2)
      have HCa := hideP (HC2.out w2 _ (isL_own (E := cdN) (by rw [HMl.out]; exact own2)))
      clear own2 f2
      go_wp2_with fail
      refine HCa.out.mono ?_
      rintro _ w3 ⟨rfl, f3⟩
      go_wp2_with fail
      go_ret2
      exact ⟨.inl ⟨h1, rfl⟩, F2.out.trans f3⟩
  · have e1 : ((EX.ck e : Int) != 0) = true := by simp; omega
    have e2 : ¬ ((EX.ck e : Int) = 0) := by omega
    obtain ⟨a, cap, rfl, hcap, hcs⟩ := h
    clear hcs hn
    go_enter Tryz.func28, Tryz.ntmps28
    go_wp2_with fail
    refine HC.out.mono ?_
    rintro _ w1 ⟨rfl, f1⟩
    go_wp2_with fail
    go_ret2
    exact ⟨.inl ⟨h0, rfl⟩, f1⟩
end Go.Proofs.YtjboeabddnnlcaaGreatDoor
