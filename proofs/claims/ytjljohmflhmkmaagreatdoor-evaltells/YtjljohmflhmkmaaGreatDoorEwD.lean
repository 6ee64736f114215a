/-
  What Fold of package eval answers.
-/
import Derived.Test.YtjljohmflhmkmaaGreatDoorEwB
namespace Go.Proofs.YtjljohmflhmkmaaGreatDoor
open Go.ChangeShapes Go.WideShapes Go.ChangeAt Go.RowKit
set_option linter.unusedVariables false
set_option linter.unusedSimpArgs false
set_option maxRecDepth 100000
set_option maxHeartbeats 2000000

/-- what Fold answers -/
def FoAns (e : List EX.Nd) (B : Nat) (r : Ending) (w' : World) : Prop :=
  (EX.ck e ≠ 0 ∧ r = .returned (.tuple #[.slice none 0 0, .int .i64 (EX.ck e : Int)])) ∨
  (EX.ck e = 0 ∧ ∃ u, r = .returned (.tuple #[u, .int .i64 0]) ∧ w'.ownsRow B 38 6 u (EV.fld e).length (flat cdN (EV.fld e)))
theorem fold_any (v : Value) (e : List EX.Nd) (w : World) (h : IsL cdN w v e) (hok : ∀ n ∈ e, EV.okN n) (hl : e.length ≤ 9223372036854775806) (hTn : Tn w) (hT : Tb w) :
    Calls Tryz.prog 23 #[v] w fun r w' => FoAns e w.heap.size r w' ∧ Fr w w' := by
  have HC := hideP (xcheck_any v e w h (fun n hn => (hok n hn).1) hl)
  unfold FoAns
  by_cases h0 : EX.ck e = 0
  · obtain ⟨n, k, he, hg, hd, hl60⟩ := EX.ck_tree h0
    have HU := hideP (fun W (g : Fr w W) => upN_any v e W (h.fr g) hok (by omega) (hTn.fr g) (hT.fr g))
    unfold UpNAns at HU
    have HOne : Hid (∃ m, EX.up EV.fOf e [] = .ok [m] ∧ EV.fld e = m) := by
      subst he
      obtain ⟨h1, h2, n', k', h3⟩ := EV.fld_tree hg h0
      refine ⟨k'.flat ++ [n'], ?_, ?_⟩
      · rw [h1, h3]; rfl
      · rw [h2, h3]; rfl
    rw [h0] at HC ⊢
    simp only [ne_eq, not_true, false_and, false_or, true_and]
    obtain ⟨m, hm, hf⟩ := HOne.out
    rw [hf]
    have HM := hideP hm
    obtain ⟨a, cap, rfl, hcap, hcs⟩ := h
    clear hcs hok hTn hT hg hd hm hf HOne he
    go_enter Tryz.func23, Tryz.ntmps23
    go_wp2_with fail
    refine HC.out.mono ?_
    rintro _ w1 ⟨rfl, f1⟩
    have F1 := hideP f1
    clear f1
    go_wp2_with fail
    refine (HU.out _ F1.out).mono ?_
    rintro _ w2 ⟨⟨out, u, ho, rfl, qs, hown, hqn, hqs⟩, f2⟩
    rw [HM.out] at ho
    obtain rfl : [m] = out := by injection ho
    have F2 := hideP (F1.out.trans f2)
    obtain ⟨q, rfl⟩ : ∃ q, qs = [q] := by
      match qs, hqn with
      | [q], _ => exact ⟨q, rfl⟩
    have HO := hideP (own_low (hqs 0 (by simp) (by simp)) F1.out.size)
    simp only [List.getElem_cons_zero] at HO
    obtain ⟨ua, uc, rfl⟩ := own_slice hown
    obtain ⟨ga, gc, hge, hgc, hgg⟩ := isL_own (E := cdQ) (l := [q]) hown
    cases hge
    obtain ⟨g, o, rfl, hgb, hgat⟩ : ∃ b o, ua = some ⟨b, o, none⟩ ∧ b < w2.heap.size ∧ At cdQ w2 b o [q] := by
      rcases hgg with h | h
      · cases h
      · exact h
    have d0 := hgat.q1 0 (by simp)
    simp only [List.getElem_cons_zero, Nat.add_zero] at d0
    obtain ⟨qa, qn, qc⟩ := q
    simp only at d0
    simp only [Sl.v] at HO
    clear hgat hgg hown hqs hqn f2 ho
    go_wp2_with fail
    go_ret2
    exact ⟨⟨_, rfl, HO.out⟩, F2.out⟩
  · have e1 : ((EX.ck e : Int) != 0) = true := by simp; omega
    have e2 : ¬ ((EX.ck e : Int) = 0) := by omega
    obtain ⟨a, cap, rfl, hcap, hcs⟩ := h
    clear hcs hok hTn hT
    go_enter Tryz.func23, Tryz.ntmps23
    go_wp2_with fail
    refine HC.out.mono ?_
    rintro _ w1 ⟨rfl, f1⟩
    go_wp2_with fail
    go_ret2
    exact ⟨.inl ⟨h0, rfl⟩, f1⟩
end Go.Proofs.YtjljohmflhmkmaaGreatDoor
