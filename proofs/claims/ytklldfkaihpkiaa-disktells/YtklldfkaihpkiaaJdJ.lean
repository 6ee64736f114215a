/-
  The document's IsHot of a store at rest; plainEnd; write.
-/
import Derived.Test.YtklldfkaihpkiaaJdH
namespace Go.Proofs.Ytklldfkaihpkiaa
open Go.ChangeShapes Go.WideShapes Go.ChangeAt Go.RowKit
set_option linter.unusedVariables false
set_option linter.unusedSimpArgs false
set_option maxRecDepth 100000

set_option maxHeartbeats 400000 in
theorem lwrite_any (no : Int) (s : ByteArray) (w : World) :
    Calls Try.prog 44 #[.int .i64 no, .string s] w fun e w' => e = .returned (.agg #[.int .i64 no, .string s]) ∧ Fr w w' := by
  go_enter Try.func44, Try.ntmps44
  go_wp2_with fail
  exact bodyPost_ret (v := .agg #[.int .i64 no, .string s]) (by simp [results, Try.results44, go_sem]) rfl ⟨rfl, (Fr.refl w).alloc _⟩
set_option maxHeartbeats 1000000 in
theorem hotDoc_cold (p q P Q : Value) (s : JN.S) (w : World) (hr : IsS w p q P Q s) (hw : s.jo.wt = []) (hc : JN.hotB (JN.fn s.jo.pg 0) = false) :
    Calls Try.prog 69 #[.agg #[p, q, P, Q]] w fun e w' => e = .returned (.bool false) ∧ Fr w w' := by
  obtain ⟨ap, np, cp, rfl⟩ := hr.1.1.slice
  obtain ⟨aq, nq, cq, rfl⟩ := hr.1.2.slice
  obtain ⟨aP, nP, cP, rfl⟩ := hr.2.1.slice
  obtain ⟨aQ, nQ, cQ, rfl⟩ := hr.2.2.slice
  have c := fun W (f : Fr w W) => lastOf_any _ _ s.jo.pg s.jo.wt 18446744073709551615 0 W (hr.2.fr f).1 (hr.2.fr f).2 (by decide) (by rw [hw]; simp)
  have e1 : JN.lastP 0 (JN.pageAt s.jo.pg 0) s.jo.wt 18446744073709551615 = JN.fn s.jo.pg 0 := by
    rw [hw]; rfl
  rw [e1] at c
  generalize JN.fn s.jo.pg 0 = pg at c hc
  clear e1 hr
  by_cases h0 : pg.size = 0
  · have e : pg = ⟨#[]⟩ := JN.size0 h0
    subst e
    go_enter Try.func69, Try.ntmps69
    go_wp2_with fail
    refine (c _ ((Fr.refl w).alloc _)).mono ?_
    rintro _ w1 ⟨rfl, rfl⟩
    go_wp2_with fail
    go_ret
    exact ⟨rfl, (Fr.refl w).alloc _⟩
  · have hpos : 0 < pg.size := by omega
    have hposZ : (0 : Int) < (pg.size : Int) := by omega
    have h74 : ((pg[0].toNat : Int) == 74) = false := by
      have hl : pg.data.toList.length = pg.size := by rw [Array.length_toList]; rfl
      have e0 := get_bs pg 0 hpos
      rw [beq_eq_false_iff_ne]
      intro h
      unfold JN.hotB at hc
      have : (JN.bs pg).head? = some 74 := by
        cases hb : JN.bs pg with
        | nil => unfold JN.bs at hb; rw [hb] at hl; simp at hl; omega
        | cons x r =>
          rw [hb] at e0
          simp at e0
          have : x.toNat = 74 := by rw [← e0]; omega
          have h2 : x = 74 := UInt8.toNat_inj.1 (by rw [this]; rfl)
          rw [h2]; rfl
      rw [this] at hc
      simp at hc
    go_enter Try.func69, Try.ntmps69
    go_wp2_with fail
    refine (c _ ((Fr.refl w).alloc _)).mono ?_
    rintro _ w1 ⟨rfl, rfl⟩
    go_wp2_with fail
    go_ret
    exact ⟨rfl, (Fr.refl w).alloc _⟩
set_option maxHeartbeats 1000000 in
theorem plainEnd_true (p q P Q : Value) (s : JN.S) (w : World) (hr : IsS w p q P Q s) (hrest : JN.rest s) :
    Calls Try.prog 41 #[.agg #[p, q, P, Q]] w fun e w' => e = .returned (.bool true) ∧ Fr w w' := by
  obtain ⟨h1, h2, h3⟩ := hrest
  rw [JN.hot_rest h2] at h3
  have c := fun W (f : Fr w W) => hotDoc_cold _ _ _ _ s W (hr.fr f) h2 h3
  obtain ⟨ap, np, cp, rfl⟩ := hr.1.1.slice
  obtain ⟨aP, nP, cP, rfl⟩ := hr.2.1.slice
  obtain ⟨aq, cq, e1, _⟩ := hr.1.2
  obtain ⟨aQ, cQ, e2, _⟩ := hr.2.2
  rw [h1] at e1
  rw [h2] at e2
  subst e1
  subst e2
  clear hr h1 h2 h3
  simp only [List.length_nil] at c ⊢
  go_enter Try.func41, Try.ntmps41
  go_wp2_with fail
  refine (c _ ((Fr.refl w).alloc _)).mono ?_
  rintro _ w1 ⟨rfl, f1⟩
  go_wp2_with fail
  go_ret
  exact ⟨rfl, ((Fr.refl w).alloc _).trans f1⟩
end Go.Proofs.Ytklldfkaihpkiaa
