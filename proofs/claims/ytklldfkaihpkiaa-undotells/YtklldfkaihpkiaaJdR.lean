/-
  The document's CrashOf, WriteOf.
-/
import Derived.Test.YtklldfkaihpkiaaJdQ
import Derived.Test.YtklldfkaihpkiaaJdN
namespace Go.Proofs.Ytklldfkaihpkiaa
open Go.ChangeShapes Go.WideShapes Go.ChangeAt Go.RowKit
set_option linter.unusedVariables false
set_option linter.unusedSimpArgs false
set_option maxRecDepth 100000
set_option maxHeartbeats 2000000

/-- what a call answers that answers a disk that may share its rows -/
def DIs (r : JN.D × Nat) (w : World) (e : Ending) (w' : World) : Prop :=
  ∃ p q, e = .returned (.tuple #[.agg #[p, q], .int .i64 r.2]) ∧ IsD w' p q r.1 ∧ Fr w w'
theorem crashOf_any (p q : Value) (d : JN.D) (m : Nat) (w : World) (hr : IsD w p q d) (hb1 : d.pg.length ≤ 9223372036854775806) (hb2 : d.wt.length ≤ 9223372036854775806) (hm : m < 18446744073709551616) :
    Calls Try.prog 22 #[.agg #[p, q], .int .u64 m] w fun e w' => DIs (JN.crashD d (JN.bits m)) w e w' := by
  have c := fun W (f : Fr w W) => diskCheck_any _ _ d W (hr.fr f) hb1 hb2
  have c2 := fun W (f : Fr w W) => settled_any _ _ d.pg d.wt m W (hr.fr f).1 (hr.fr f).2 hm hb2
  obtain ⟨ap, np, cp, rfl⟩ := hr.1.slice
  obtain ⟨aq, nq, cq, rfl⟩ := hr.2.slice
  obtain ⟨W0, hW0⟩ : ∃ W0, (w.alloc (.cells #[.slice ap np cp, .slice aq nq cq] 25)).alloc (.cells #[.slice none 0 0, .slice none 0 0] 25) = W0 := ⟨_, rfl⟩
  have f0 : Fr w W0 := by rw [← hW0]; exact ((Fr.refl w).alloc _).alloc _
  have bd : Blk W0 w.heap.size #[.slice ap np cp, .slice aq nq cq] 25 := by
    have := (Blk.new w #[.slice ap np cp, .slice aq nq cq] 25).old (.cells #[.slice none 0 0, .slice none 0 0] 25)
    rw [hW0] at this
    exact this
  have br : Blk W0 (w.heap.size + 1) #[.slice none 0 0, .slice none 0 0] 25 := by
    have := Blk.new (w.alloc (.cells #[.slice ap np cp, .slice aq nq cq] 25)) #[.slice none 0 0, .slice none 0 0] 25
    rw [World.size_alloc, hW0] at this
    exact this
  obtain ⟨k0, k1, _, _⟩ := bd.two
  have HB := hideP bd
  have HR := hideP br
  have HF0 := hideP f0
  have cc := c W0 f0
  by_cases h0 : JN.dchk d = 0
  · have e1 : JN.crashD d (JN.bits m) = (⟨JN.trim (JN.sett d.pg d.wt m), []⟩, 0) := by rw [JN.crashD, if_pos h0, JN.sett_doc ((JN.dchk_ok d).1 h0)]
    rw [e1]
    rw [h0] at cc
    generalize JN.trim (JN.sett d.pg d.wt m) = pl at c2
    clear c hr e1 h0 f0 bd br
    go_enter Try.func22, Try.ntmps22
    go_wp2_with fail
    refine cc.mono ?_
    rintro _ w1 ⟨rfl, f1⟩
    obtain ⟨j0, j1, _, _⟩ := (HB.out.fr f1).two
    have f2 : Fr w w1 := HF0.out.trans f1
    clear k0 k1 cc hW0
    go_wp2_with fail
    refine (c2 _ f2).mono ?_
    rintro _ w2 ⟨v2, rfl, hv2, f3⟩
    obtain ⟨a2, n2, d2, rfl⟩ := hv2.slice
    have HB2 := hideP ((HR.out.fr f1).fr f3)
    obtain ⟨i0, i1, z0, z1⟩ := HB2.out.two
    have HV := hideP hv2
    have HF := hideP (f2.trans f3)
    clear j0 j1 f1 f2 f3 hv2 c2
    go_wp2_with fail
    refine bodyPost_ret (v := .tuple #[.agg #[.slice a2 n2 d2, .slice none 0 0], .int .i64 0]) ?_ rfl ?_
    · obtain ⟨q0, q1, _, _⟩ := HB2.out.put2 (.slice a2 n2 d2) (.slice none 0 0)
      change (results Try.f22 _).run Try.prog (put2 w2 _ _ _) = .ok _ (put2 w2 _ _ _)
      simp [results, Try.results22, go_sem, q0, q1]
    · exact ⟨_, _, rfl, ⟨HV.out.at2 noSl_P HB2.out _ _, isL_nil _ _⟩, HF.out.set2 _ (by omega) _ _⟩
  · have e1 : JN.crashD d (JN.bits m) = (JN.none, JN.dchk d) := by rw [JN.crashD, if_neg h0]
    rw [e1]
    generalize JN.dchk d = x at cc h0
    have hne : ((x : Int) != 0) = true := by simp; omega
    have hne2 : ¬ ((x : Int) = 0) := by omega
    clear c c2 hr e1 f0 bd br
    go_enter Try.func22, Try.ntmps22
    go_wp2_with fail
    refine cc.mono ?_
    rintro _ w1 ⟨rfl, f1⟩
    have HB2 := hideP (HR.out.fr f1)
    obtain ⟨i0, i1, z0, z1⟩ := HB2.out.two
    have HF := hideP (HF0.out.trans f1)
    clear k0 k1 f1 cc hW0
    go_wp2_with fail
    refine bodyPost_ret (v := .tuple #[.agg #[.slice none 0 0, .slice none 0 0], .int .i64 (x : Int)]) ?_ rfl ?_
    · obtain ⟨q0, q1, _, _⟩ := HB2.out.put2 (.slice none 0 0) (.slice none 0 0)
      change (results Try.f22 _).run Try.prog (put2 w1 _ _ _) = .ok _ (put2 w1 _ _ _)
      simp [results, Try.results22, go_sem, q0, q1]
    · exact ⟨_, _, rfl, isD_none _, HF.out.set2 _ (by omega) _ _⟩
end Go.Proofs.Ytklldfkaihpkiaa
