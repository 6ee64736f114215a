/-
  Proved: for every two values AsksOne answers true: of two that are no Null just one is True: a is less, b is less, they are the same; with a Null all are Unknown. No condition but the form's own reach.
-/
import Derived.Test.YtppbmkkkjjkiiaaLBegun
import Derived.Test.YtppbmkkkjjkiiaaLgOrd
import Derived.Test.YtppbmkkkjjkiiaaOpenV
namespace Go.Proofs.Ytppbmkkkjjkiiaa.asksOneProof
open Go.ChangeShapes Go.WideShapes Go.ChangeAt Go.RowKit
set_option linter.unusedVariables false
set_option maxRecDepth 100000

def Fits (a b : VM.Vl) (x y z : Int) (e g : Nat) : Prop :=
  (e ≠ 0 ∧ x = 0 ∧ y = 0 ∧ z = 0) ∨ (e = 0 ∧ g = 0 ∧ ((a.k = 0 ∧ x = 1 ∧ y = 1 ∧ z = 1) ∨ ((a.k == 0) = false ∧ b.k = 0 ∧ x = 1 ∧ y = 1 ∧ z = 1) ∨
    ((a.k == 0) = false ∧ (b.k == 0) = false ∧ ((x = 2 ∧ y = 0 ∧ z = 0) ∨ (x = 0 ∧ y = 2 ∧ z = 0) ∨ (x = 0 ∧ y = 0 ∧ z = 2)))))

theorem fits (a b : VM.Vl) : Fits a b (LG.lt2 a b) (LG.sm2 a b) (LG.lt2 b a) (VM.chkAll [a, b]) (VM.chkAll [b, a]) := by
  have h1 := LG.chk_two a b
  have h2 := LG.chk_two b a
  by_cases he : VM.chkAll [a, b] = 0
  · have hg : VM.chkAll [b, a] = 0 := h2.2 ⟨(h1.1 he).2, (h1.1 he).1⟩
    refine Or.inr ⟨he, hg, ?_⟩
    have e1 : LG.lt2 a b = LG.lt a b := if_pos he
    have e2 : LG.sm2 a b = LG.sm a b := if_pos he
    have e3 : LG.lt2 b a = LG.lt b a := if_pos hg
    rw [e1, e2, e3]
    by_cases ka : a.k = 0
    · exact Or.inl ⟨ka, if_pos (Or.inl ka), if_pos (Or.inl ka), if_pos (Or.inr ka)⟩
    · by_cases kb : b.k = 0
      · exact Or.inr (Or.inl ⟨by simpa using ka, kb, if_pos (Or.inr kb), if_pos (Or.inr kb), if_pos (Or.inl kb)⟩)
      · refine Or.inr (Or.inr ⟨by simpa using ka, by simpa using kb, ?_⟩)
        have f1 : LG.lt a b = if CM.cmp a b < 0 then 2 else 0 := if_neg (by omega)
        have f2 : LG.sm a b = if CM.cmp a b = 0 then 2 else 0 := if_neg (by omega)
        have f3 : LG.lt b a = if CM.cmp b a < 0 then 2 else 0 := if_neg (by omega)
        rw [f1, f2, f3, LG.cmp_ok he, LG.cmp_ok hg, LG.ord_anti a b]
        rcases Int.lt_trichotomy (CM.ord a b) 0 with h | h | h
        · rw [if_pos h, if_neg (by omega), if_neg (by omega)]; exact Or.inl ⟨rfl, rfl, rfl⟩
        · rw [if_neg (by omega), if_pos h, if_neg (by omega)]; exact Or.inr (Or.inl ⟨rfl, rfl, rfl⟩)
        · rw [if_neg (by omega), if_neg (by omega), if_pos (by omega)]; exact Or.inr (Or.inr ⟨rfl, rfl, rfl⟩)
  · have hg : ¬ VM.chkAll [b, a] = 0 := fun h => he (h1.2 ⟨(h2.1 h).2, (h2.1 h).1⟩)
    exact Or.inl ⟨he, if_neg he, if_neg he, if_neg hg⟩

/-- two values in memory, one behind the other -/
def Box2 (W : World) (g : Nat) (ak an bk bn : Int) (sa sb : ByteArray) : Prop :=
  W.cell? ⟨g, 0, none⟩ = some (.int .i64 ak) ∧ W.cell? ⟨g, 1, none⟩ = some (.int .i64 an) ∧ W.cell? ⟨g, 2, none⟩ = some (.string sa) ∧ W.cell? ⟨g + 1, 0, none⟩ = some (.int .i64 bk) ∧ W.cell? ⟨g + 1, 1, none⟩ = some (.int .i64 bn) ∧ W.cell? ⟨g + 1, 2, none⟩ = some (.string sb)
theorem Box2.fr {W W' : World} {g : Nat} {ak an bk bn : Int} {sa sb : ByteArray} (h : Box2 W g ak an bk bn sa sb) (f : Fr W W') : Box2 W' g ak an bk bn sa sb :=
  ⟨cell_fr f h.1, cell_fr f h.2.1, cell_fr f h.2.2.1, cell_fr f h.2.2.2.1, cell_fr f h.2.2.2.2.1, cell_fr f h.2.2.2.2.2⟩
theorem Box2.mk (w : World) (ak an bk bn : Int) (sa sb : ByteArray) : Box2 ((w.alloc (.cells #[.int .i64 ak, .int .i64 an, .string sa] 32)).alloc (.cells #[.int .i64 bk, .int .i64 bn, .string sb] 32)) w.heap.size ak an bk bn sa sb := by
  unfold Box2
  simp [go_sem]

set_option maxHeartbeats 4000000 in
theorem core (ak an bk bn : Int) (sa sb : ByteArray) (x y z : Int) (e g : Nat) (w : World) (hf : Fits ⟨ak, an, sa⟩ ⟨bk, bn, sb⟩ x y z e g)
    (c1 : ∀ W, Calls Try.prog 21 #[.agg #[.int .i64 ak, .int .i64 an, .string sa], .agg #[.int .i64 bk, .int .i64 bn, .string sb]] W fun r w' => r = .returned (.tuple #[.int .i64 x, .int .i64 e]) ∧ Fr W w')
    (c2 : ∀ W, Calls Try.prog 22 #[.agg #[.int .i64 ak, .int .i64 an, .string sa], .agg #[.int .i64 bk, .int .i64 bn, .string sb]] W fun r w' => r = .returned (.tuple #[.int .i64 y, .int .i64 e]) ∧ Fr W w')
    (c3 : ∀ W, Calls Try.prog 21 #[.agg #[.int .i64 bk, .int .i64 bn, .string sb], .agg #[.int .i64 ak, .int .i64 an, .string sa]] W fun r w' => r = .returned (.tuple #[.int .i64 z, .int .i64 g]) ∧ Fr W w') :
    Calls Try.prog 8 #[.agg #[.int .i64 ak, .int .i64 an, .string sa], .agg #[.int .i64 bk, .int .i64 bn, .string sb]] w fun r w' => r = .returned (.bool true) ∧ Fr w w' := by
  unfold Fits at hf
  simp only at hf
  go_enter Try.func8, Try.ntmps8
  go_wp2_with (go_at_call 21; refine (c1 _).mono ?_)
  rintro _ w1 ⟨rfl, hf1⟩
  have B1 : Hid _ := (Box2.mk w ak an bk bn sa sb).fr hf1
  have F1 : Hid (Fr w w1) := Fr.trans (((Fr.refl w).alloc _).alloc _) hf1
  obtain ⟨a0, a1, a2, b0, b1, b2⟩ := B1.out
  clear hf1
  go_wp2_with (go_at_call 22; refine (c2 _).mono ?_)
  rintro _ w2 ⟨rfl, hf2⟩
  have B2 : Hid _ := Box2.fr B1.out hf2
  have F2 : Hid (Fr w w2) := Fr.trans F1.out hf2
  clear hf2 a0 a1 a2 b0 b1 b2 B1 F1
  obtain ⟨a0, a1, a2, b0, b1, b2⟩ := B2.out
  go_wp2_with (go_at_call 21; refine (c3 _).mono ?_)
  rintro _ w3 ⟨rfl, hf3⟩
  have B3 : Hid _ := Box2.fr B2.out hf3
  have F3 : Hid (Fr w w3) := Fr.trans F2.out hf3
  clear hf3 a0 a1 a2 b0 b1 b2 B2 F2
  go_wp2_with (go_at_call 10; refine (logicBegun_any _).mono ?_)
  rintro _ w4 ⟨rfl, hf4⟩
  have B4 : Hid _ := Box2.fr B3.out hf4
  have F4 : Hid (Fr w w4) := Fr.trans F3.out hf4
  clear hf4 B3 F3
  obtain ⟨a0, a1, a2, b0, b1, b2⟩ := B4.out
  clear c1 c2 c3 B4
  rcases hf with ⟨he, rfl, rfl, rfl⟩ | ⟨rfl, rfl, ⟨rfl, rfl, rfl, rfl⟩ | ⟨q1, rfl, rfl, rfl, rfl⟩ | ⟨q1, q2, ⟨rfl, rfl, rfl⟩ | ⟨rfl, rfl, rfl⟩ | ⟨rfl, rfl, rfl⟩⟩⟩
  · have q : ((e : Int) != 0) = true := by simp; omega
    have q' : ¬ ((e : Int) = 0) := by omega
    clear he
    go_wp2_with fail
    go_ret
    exact ⟨rfl, F4.out⟩
  all_goals (
    go_wp2_with fail
    go_ret
    exact ⟨rfl, F4.out⟩)

theorem walk (a b : VM.Vl) (w : World) (ha : a.s.size ≤ maxLen) (hb : b.s.size ≤ maxLen) :
    Calls Try.prog 8 #[a.val, b.val] w fun e w' => e = .returned (.bool true) ∧ Fr w w' :=
  core a.k a.n b.k b.n a.s b.s _ _ _ _ _ w (fits a b) (fun W => Less_any a b W) (fun W => Same_any a b W) (fun W => Less_any b a W)

set_option maxRecDepth 100000 in
theorem lifted (os : Os) (started : os.Started) (H : Type) (enc : TypeId × Value → H) :
    ReturnsInHanded {} Try.checked os 8 .any (Rows.asksOneSpec.pre6 enc Try.prog Try.f8 Rows.asksOneRow.domain false) (Rows.asksOneSpec.post enc Try.prog Try.f8 false true false false) := by
  refine returnsInHanded_of_change_sized (C := Try.checked) own started (by kernel_rfl) Try.func8
    (ChangeSpec.witness6 (enc := enc) (C := Try.checked) false ⟨#[], #[.agg #[.int .i64 0, .int .i64 0, .string ByteArray.empty], .agg #[.int .i64 0, .int .i64 0, .string ByteArray.empty]], []⟩ 8 (by kernel_rfl) (by kernel_rfl) (by kernel_rfl) (by kernel_rfl)) ?_
  intro W base args ds gs before hval0 hW hcnd hsz0 _
  have hval : ∀ (j : Nat) t v, Try.f8.params[j]? = some t → args[j]? = some v → Value.okWide Try.prog W .any base t v := hval0
  have hsz : (DataW.weightsEach Try.prog (Try.f8.params.toList ++ Rows.asksOneSpec.plain.varTypes Try.prog) (ds ++ gs)).all (· ≤ reachBytes) = true := hsz0
  have hW' := hW
  obtain ⟨p, q, hA0, hV, rfl, hfz, hnd⟩ := hW
  have hA : DataW.TrodAll enc Try.prog W 0 (fun _ => true) true Try.f8.params.toList args.toList ds p := hA0
  rw [Try.params8] at hA hval hsz
  obtain ⟨v0, vs0, d0, ds0, p0, q0, hargs, rfl, rfl, h0, r0⟩ := trodAll_cons hA
  obtain ⟨v1, vs1, d1, ds1, p1, q1, rfl, rfl, rfl, h1, r1⟩ := trodAll_cons r0
  obtain ⟨rfl, rfl, rfl⟩ := trodAll_nil r1
  obtain rfl : args = #[v0, v1] := by cases args; simp_all
  obtain ⟨rfl, rfl⟩ := trodVars_none hV
  obtain ⟨a0, rfl, wd0⟩ := open_val (hval 0 32 v0 rfl rfl) h0
  obtain ⟨a1, rfl, wd1⟩ := open_val (hval 1 32 v1 rfl rfl) h1
  clear hA0 hval0 hsz0
  refine (walk a0 a1 W wd0 wd1).mono fun e W' ⟨he, bel⟩ => ?_
  subst he
  exact ⟨_, rfl, _, _, _, [], _, [], hW', trodAll_mk1 (shut_bool Try.underlying4 _), (trodAll_cons_mk (shut_val h0 bel) (trodAll_cons_mk (shut_val h1 bel) trodAll_mk0)), rfl, Below.frame bel _, fun h => by cases h⟩

theorem over : Rows.asksOneRow.holds Try.pinned (OpenSpec.ofChange Rows.asksOneSpec) :=
  OpenClaim.holds_of_wide 8 Try.f8 rfl rfl rfl rfl rfl rfl rfl ⟨rfl, rfl, rfl, rfl, rfl⟩ rfl rfl rfl rfl rfl (by kernel_rfl) Try.func8 (by kernel_rfl)
    (of_decide_eq_true (by kernel_rfl)) (by unfold Func.isWrapper; first | (rw [if_pos (by decide +kernel)]; kernel_rfl) | (rw [if_neg (by decide +kernel)]; exact ⟨rfl, rfl⟩))
    (fun os started H enc _ => lifted os started H enc)

end Go.Proofs.Ytppbmkkkjjkiiaa.asksOneProof
namespace Go.Proofs.Ytppbmkkkjjkiiaa
theorem asksOne_holds : Rows.AsksOneSaid := asksOneProof.over
#print axioms asksOne_holds
end Go.Proofs.Ytppbmkkkjjkiiaa
