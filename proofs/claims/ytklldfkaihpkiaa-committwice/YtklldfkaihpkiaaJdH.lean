/-
  What Recover of package journal answers, for every store; the document's IsHot, and plainEnd.
-/
import Derived.Test.YtklldfkaihpkiaaJdC
import Derived.Test.YtklldfkaihpkiaaJdI
namespace Go.Proofs.Ytklldfkaihpkiaa
open Go.ChangeShapes Go.WideShapes Go.ChangeAt Go.RowKit
set_option linter.unusedVariables false
set_option linter.unusedSimpArgs false
set_option maxRecDepth 100000

set_option maxHeartbeats 1000000 in
theorem recover_any (p q P Q : Value) (s : JN.S) (w : World) (hr : IsS w p q P Q s) (h1 : s.da.pg.length ≤ 9223372036854775806) (h2 : s.jo.pg.length ≤ 9223372036854775806) :
    Calls Try.prog 39 #[.agg #[p, q, P, Q]] w fun e w' => SAns (JN.recS s) w e w' := by
  have cu := fun W (f : Fr w W) => undo_any _ _ _ _ s W (hr.fr f) h1 h2
  have cp := fun v (ops : List JN.O) W (f : Fr w W) (h : IsL cdO W v ops) => play_any _ _ _ _ v s ops W (hr.fr f) h h1 h2
  obtain ⟨ap, np, cp', rfl⟩ := hr.1.1.slice
  obtain ⟨aq, nq, cq, rfl⟩ := hr.1.2.slice
  obtain ⟨aP, nP, cP, rfl⟩ := hr.2.1.slice
  obtain ⟨aQ, nQ, cQ, rfl⟩ := hr.2.2.slice
  have hE : JN.recS s = if (JN.undoS s).2 = 0 then JN.playS s (JN.undoS s).1 else (JN.noneS, (JN.undoS s).2) := rfl
  obtain ⟨W0, hW0⟩ : ∃ W0, (w.alloc (.cells #[.slice ap np cp', .slice aq nq cq, .slice aP nP cP, .slice aQ nQ cQ] 46)).alloc (.cells #[.slice none 0 0, .slice none 0 0, .slice none 0 0, .slice none 0 0] 46) = W0 := ⟨_, rfl⟩
  have f0 : Fr w W0 := by rw [← hW0]; exact ((Fr.refl w).alloc _).alloc _
  have b0 : Blk W0 w.heap.size #[.slice ap np cp', .slice aq nq cq, .slice aP nP cP, .slice aQ nQ cQ] 46 := by rw [← hW0]; exact (Blk.new w _ _).old _
  have b2 : Blk W0 (w.heap.size + 1) #[.slice none 0 0, .slice none 0 0, .slice none 0 0, .slice none 0 0] 46 := by
    have := Blk.new (w.alloc (.cells #[.slice ap np cp', .slice aq nq cq, .slice aP nP cP, .slice aQ nQ cQ] 46)) #[.slice none 0 0, .slice none 0 0, .slice none 0 0, .slice none 0 0] 46
    rw [World.size_alloc, hW0] at this; exact this
  have c0 := cu W0 f0
  have HW := hideP hW0
  have HB0 := hideP b0
  have HB2 := hideP b2
  have HF0 := hideP f0
  clear cu hW0 f0 b0 b2 hr
  rw [hE]
  clear hE
  generalize JN.undoS s = r at c0
  go_enter Try.func39, Try.ntmps39
  go_wp2_with fail
  rw [HW.out]
  refine c0.mono ?_
  rintro _ w1 ⟨v1, rfl, ho, f1⟩
  obtain ⟨av, cv, rfl⟩ := own_slice ho
  have HO := hideP ho
  have HF1 := hideP f1
  clear ho f1 c0
  by_cases he : r.2 = 0
  · rw [he]
    obtain ⟨k0, k1, k2, k3, _, _, _, _⟩ := (HB0.out.fr HF1.out).four
    have c2 := cp (.slice av r.1.length cv) r.1 w1 (HF0.out.trans HF1.out) (isL_own HO.out)
    clear cp
    go_wp2_with fail
    refine c2.mono ?_
    rintro _ w2 ⟨p2, q2, P2, Q2, rfl, hs2, n1, n2, f2⟩
    obtain ⟨a1, m1, c1, rfl⟩ := hs2.1.1.slice
    obtain ⟨a2, m2, c2', rfl⟩ := hs2.1.2.slice
    obtain ⟨a3, m3, c3, rfl⟩ := hs2.2.1.slice
    obtain ⟨a4, m4, c4, rfl⟩ := hs2.2.2.slice
    have HS := hideP hs2
    have HN1 := hideP n1
    have HN2 := hideP n2
    have HB := hideP ((HB2.out.fr HF1.out).fr f2)
    have HF := hideP ((HF0.out.trans HF1.out).trans f2)
    have hlt : w.heap.size + 1 < w1.heap.size := (HB2.out.fr HF1.out).lt
    obtain ⟨l0, l1, l2, l3, y0, y1, y2, y3⟩ := HB.out.four
    clear hs2 n1 n2 f2 k0 k1 k2 k3 c2
    go_wp2_with fail
    refine bodyPost_ret (v := .tuple #[.agg #[.slice a1 m1 c1, .slice a2 m2 c2', .slice a3 m3 c3, .slice a4 m4 c4], .int .i64 ((JN.playS s r.1).2 : Int)]) ?_ rfl ?_
    · obtain ⟨q0, q1, q2, q3, _, _, _, _⟩ := (HB.out.put4 (.slice a1 m1 c1) (.slice a2 m2 c2') (.slice a3 m3 c3) (.slice a4 m4 c4)).four
      change (results Try.f39 _).run Try.prog (pt4 w2 _ _ _ _ _) = .ok _ (pt4 w2 _ _ _ _ _)
      simp [results, Try.results39, go_sem, q0, q1, q2, q3]
    · have hs1 := (HF0.out.trans HF1.out).size
      exact ⟨_, _, _, _, rfl, ⟨HS.out.1.put4 (HN1.out.off hlt) _ _ _ _, HS.out.2.put4 (HN2.out.off hlt) _ _ _ _⟩, HN1.out.low hs1, HN2.out.low hs1, HF.out.put4 _ (by omega) _ _ _ _⟩
  · have hne : ((r.2 : Int) != 0) = true := by simp; omega
    have hne2 : ¬ ((r.2 : Int) = 0) := by omega
    have HB := hideP (HB2.out.fr HF1.out)
    obtain ⟨l0, l1, l2, l3, y0, y1, y2, y3⟩ := HB.out.four
    clear cp
    go_wp2_with fail
    refine bodyPost_ret (v := .tuple #[.agg #[.slice none 0 0, .slice none 0 0, .slice none 0 0, .slice none 0 0], .int .i64 (r.2 : Int)]) ?_ rfl ?_
    · obtain ⟨q0, q1, q2, q3, _, _, _, _⟩ := (HB.out.put4 (.slice none 0 0) (.slice none 0 0) (.slice none 0 0) (.slice none 0 0)).four
      change (results Try.f39 _).run Try.prog (pt4 w1 _ _ _ _ _) = .ok _ (pt4 w1 _ _ _ _ _)
      simp [results, Try.results39, go_sem, q0, q1, q2, q3]
    · exact ⟨_, _, _, _, rfl, isS_none _, newD_nil _, newD_nil _, (HF0.out.trans HF1.out).put4 _ (by omega) _ _ _ _⟩
end Go.Proofs.Ytklldfkaihpkiaa
