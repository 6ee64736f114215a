/-
  Proved: for every three int64 WholeRing answers true: order is no matter; what was added is taken away again; a sum of products is a product of a sum, if all of them hold. No condition.
-/
import Derived.Test.YtbljoohikhjdjaaWBegun
namespace Go.Proofs.Ytbljoohikhjdjaa.wholeRingProof
open Go.ChangeShapes Go.WideShapes Go.ChangeAt Go.RowKit
set_option linter.unusedVariables false
set_option maxRecDepth 100000

set_option maxHeartbeats 4000000 in
theorem core (a b c x e p g s i l j m k n o : Int) (w : World)
    (c1 : ∀ W, Calls Try.prog 11 #[.int .i64 a, .int .i64 b] W fun y w' => y = .returned (.tuple #[.int .i64 x, .int .i64 e]) ∧ w' = W)
    (c2 : ∀ W, Calls Try.prog 11 #[.int .i64 b, .int .i64 a] W fun y w' => y = .returned (.tuple #[.int .i64 x, .int .i64 e]) ∧ w' = W)
    (c3 : ∀ W, Calls Try.prog 13 #[.int .i64 a, .int .i64 b] W fun y w' => y = .returned (.tuple #[.int .i64 p, .int .i64 g]) ∧ w' = W)
    (c4 : ∀ W, Calls Try.prog 13 #[.int .i64 b, .int .i64 a] W fun y w' => y = .returned (.tuple #[.int .i64 p, .int .i64 g]) ∧ w' = W)
    (c6 : ∀ W, Calls Try.prog 11 #[.int .i64 b, .int .i64 c] W fun y w' => y = .returned (.tuple #[.int .i64 s, .int .i64 i]) ∧ w' = W)
    (c7 : ∀ W, Calls Try.prog 13 #[.int .i64 a, .int .i64 s] W fun y w' => y = .returned (.tuple #[.int .i64 l, .int .i64 j]) ∧ w' = W)
    (c8 : ∀ W, Calls Try.prog 13 #[.int .i64 a, .int .i64 c] W fun y w' => y = .returned (.tuple #[.int .i64 m, .int .i64 k]) ∧ w' = W)
    (c9 : ∀ W, Calls Try.prog 11 #[.int .i64 p, .int .i64 m] W fun y w' => y = .returned (.tuple #[.int .i64 n, .int .i64 o]) ∧ w' = W)
    (he : e = 8 ∨ (e = 0 ∧ ∀ W, Calls Try.prog 12 #[.int .i64 x, .int .i64 b] W fun y w' => y = .returned (.tuple #[.int .i64 a, .int .i64 0]) ∧ w' = W))
    (hf : i = 8 ∨ (i = 0 ∧ (j = 8 ∨ (j = 0 ∧ (g = 8 ∨ (g = 0 ∧ (k = 8 ∨ (k = 0 ∧ o = 0 ∧ l = n)))))))) :
    Calls Try.prog 6 #[.int .i64 a, .int .i64 b, .int .i64 c] w fun x w' => x = .returned (.bool true) ∧ Fr w w' := by
  rcases he with rfl | ⟨rfl, c5⟩ <;> rcases hf with rfl | ⟨rfl, rfl | ⟨rfl, rfl | ⟨rfl, rfl | ⟨rfl, rfl, rfl⟩⟩⟩⟩
  all_goals (
    go_enter Try.func6, Try.ntmps6
    go_wp2_with (go_at_call 11; refine (c1 _).mono ?_)
    rintro _ w1 ⟨rfl, rfl⟩
    go_wp2_with (go_at_call 11; refine (c2 _).mono ?_)
    rintro _ w1 ⟨rfl, rfl⟩
    go_wp2_with (go_at_call 13; refine (c3 _).mono ?_)
    rintro _ w1 ⟨rfl, rfl⟩
    go_wp2_with (go_at_call 13; refine (c4 _).mono ?_)
    rintro _ w1 ⟨rfl, rfl⟩
    go_wp2_with (go_at_call 18; refine (wholeBegun_any _).mono ?_)
    rintro _ w2 ⟨rfl, hfr⟩
    first
    | (go_wp2_with (go_at_call 12; refine (c5 _).mono ?_)
       rintro _ w3 ⟨rfl, rfl⟩
       go_wp2_with (go_at_call 11; refine (c6 _).mono ?_)
       rintro _ w3 ⟨rfl, rfl⟩)
    | (go_wp2_with (go_at_call 11; refine (c6 _).mono ?_)
       rintro _ w3 ⟨rfl, rfl⟩)
    go_wp2_with (go_at_call 13; refine (c7 _).mono ?_)
    rintro _ w3 ⟨rfl, rfl⟩
    go_wp2_with (go_at_call 13; refine (c8 _).mono ?_)
    rintro _ w3 ⟨rfl, rfl⟩
    go_wp2_with (go_at_call 11; refine (c9 _).mono ?_)
    rintro _ w3 ⟨rfl, rfl⟩
    go_wp2_with fail
    go_ret
    exact ⟨rfl, hfr⟩)

theorem walk (a b c : Int) (w : World) (ha : -9223372036854775808 ≤ a ∧ a ≤ 9223372036854775807) (hb : -9223372036854775808 ≤ b ∧ b ≤ 9223372036854775807) (hc : -9223372036854775808 ≤ c ∧ c ≤ 9223372036854775807) :
    Calls Try.prog 6 #[.int .i64 a, .int .i64 b, .int .i64 c] w fun e w' => e = .returned (.bool true) ∧ Fr w w' := by
  have hs := WH.val_Ok (b + c)
  have hp := WH.val_Ok (a * b)
  have hm := WH.val_Ok (a * c)
  refine core a b c (WH.val (a + b)) (WH.err (a + b)) (WH.val (a * b)) (WH.err (a * b)) (WH.val (b + c)) (WH.err (b + c)) (WH.val (a * WH.val (b + c))) (WH.err (a * WH.val (b + c))) (WH.val (a * c)) (WH.err (a * c))
    (WH.val (WH.val (a * b) + WH.val (a * c))) (WH.err (WH.val (a * b) + WH.val (a * c))) w (fun W => add_any a b W ha hb) ?_ (fun W => mul_any a b W ha hb) ?_
    (fun W => add_any b c W hb hc) (fun W => mul_any a _ W ha hs) (fun W => mul_any a c W ha hc) (fun W => add_any _ _ W hp hm) ?_ ?_
  · intro W
    have h := add_any b a W hb ha
    rw [Int.add_comm b a] at h
    exact h
  · intro W
    have h := mul_any b a W hb ha
    rw [Int.mul_comm b a] at h
    exact h
  · rcases WH.ok_em (a + b) with ho | ho
    · refine Or.inr ⟨WH.err_ok ho, fun W => ?_⟩
      have h := sub_any (a + b) b W ho hb
      rw [show a + b - b = a by omega] at h
      unfold two at h
      rw [WH.val_ok ha, WH.err_ok ha] at h
      rw [WH.val_ok ho]
      exact h
    · exact Or.inl (WH.err_over ho)
  · rcases WH.ok_em (b + c) with h1 | h1
    · refine Or.inr ⟨WH.err_ok h1, ?_⟩
      rw [WH.val_ok h1]
      rcases WH.ok_em (a * (b + c)) with h2 | h2
      · refine Or.inr ⟨WH.err_ok h2, ?_⟩
        rcases WH.ok_em (a * b) with h3 | h3
        · refine Or.inr ⟨WH.err_ok h3, ?_⟩
          rcases WH.ok_em (a * c) with h4 | h4
          · refine Or.inr ⟨WH.err_ok h4, ?_⟩
            rw [WH.val_ok h3, WH.val_ok h4, ← Int.mul_add]
            exact ⟨WH.err_ok h2, rfl⟩
          · exact Or.inl (WH.err_over h4)
        · exact Or.inl (WH.err_over h3)
      · exact Or.inl (WH.err_over h2)
    · exact Or.inl (WH.err_over h1)

set_option maxRecDepth 100000 in
theorem lifted (os : Os) (started : os.Started) (H : Type) (enc : TypeId × Value → H) :
    ReturnsInHanded {} Try.checked os 6 .any (Rows.wholeRingSpec.pre6 enc Try.prog Try.f6 Rows.wholeRingRow.domain false) (Rows.wholeRingSpec.post enc Try.prog Try.f6 false true false false) := by
  refine returnsInHanded_of_change_sized (C := Try.checked) own started (by kernel_rfl) Try.func6
    (ChangeSpec.witness6 (enc := enc) (C := Try.checked) false ⟨#[], #[.int .i64 0, .int .i64 0, .int .i64 0], []⟩ 8 (by kernel_rfl) (by kernel_rfl) (by kernel_rfl) (by kernel_rfl)) ?_
  intro W base args ds gs before hval0 hW hcnd hsz0 _
  have hval : ∀ (j : Nat) t v, Try.f6.params[j]? = some t → args[j]? = some v → Value.okWide Try.prog W .any base t v := hval0
  have hsz : (DataW.weightsEach Try.prog (Try.f6.params.toList ++ Rows.wholeRingSpec.plain.varTypes Try.prog) (ds ++ gs)).all (· ≤ reachBytes) = true := hsz0
  have hW' := hW
  obtain ⟨p, q, hA0, hV, rfl, hfz, hnd⟩ := hW
  have hA : DataW.TrodAll enc Try.prog W 0 (fun _ => true) true Try.f6.params.toList args.toList ds p := hA0
  rw [Try.params6] at hA hval hsz
  obtain ⟨v0, vs0, d0, ds0, p0, q0, hargs, rfl, rfl, h0, r0⟩ := trodAll_cons hA
  obtain ⟨v1, vs1, d1, ds1, p1, q1, rfl, rfl, rfl, h1, r1⟩ := trodAll_cons r0
  obtain ⟨v2, vs2, d2, ds2, p2, q2, rfl, rfl, rfl, h2, r2⟩ := trodAll_cons r1
  obtain ⟨rfl, rfl, rfl⟩ := trodAll_nil r2
  obtain rfl : args = #[v0, v1, v2] := by cases args; simp_all
  obtain ⟨rfl, rfl⟩ := trodVars_none hV
  obtain ⟨a0, rfl, rfl, rfl, w0⟩ := open_int Try.underlying2 (hval 0 2 v0 rfl rfl) h0
  obtain ⟨a1, rfl, rfl, rfl, w1⟩ := open_int Try.underlying2 (hval 1 2 v1 rfl rfl) h1
  obtain ⟨a2, rfl, rfl, rfl, w2⟩ := open_int Try.underlying2 (hval 2 2 v2 rfl rfl) h2
  clear hA0 hval0 hsz0
  refine (walk a0 a1 a2 W (wf_i64 w0) (wf_i64 w1) (wf_i64 w2)).mono fun e W' ⟨he, bel⟩ => ?_
  subst he
  exact ⟨_, rfl, _, _, _, [], _, [], hW', trodAll_mk1 (shut_bool Try.underlying4 _), (trodAll_cons_mk (shut_int Try.underlying2 w0) (trodAll_cons_mk (shut_int Try.underlying2 w1) (trodAll_cons_mk (shut_int Try.underlying2 w2) trodAll_mk0))), rfl, Below.frame bel _, fun h => by cases h⟩

theorem over : Rows.wholeRingRow.holds Try.pinned (OpenSpec.ofChange Rows.wholeRingSpec) :=
  OpenClaim.holds_of_wide 6 Try.f6 rfl rfl rfl rfl rfl rfl rfl ⟨rfl, rfl, rfl, rfl, rfl⟩ rfl rfl rfl rfl rfl (by kernel_rfl) Try.func6 (by kernel_rfl)
    (of_decide_eq_true (by kernel_rfl)) (by unfold Func.isWrapper; first | (rw [if_pos (by decide +kernel)]; kernel_rfl) | (rw [if_neg (by decide +kernel)]; exact ⟨rfl, rfl⟩))
    (fun os started H enc _ => lifted os started H enc)

end Go.Proofs.Ytbljoohikhjdjaa.wholeRingProof
namespace Go.Proofs.Ytbljoohikhjdjaa
theorem wholeRing_holds : Rows.WholeRingSaid := wholeRingProof.over
#print axioms wholeRing_holds
end Go.Proofs.Ytbljoohikhjdjaa
