/-
  Proved: for all patterns and all texts, Match answers just what the document says, errors too. (LikeTells; the two tables of Go's decoder are as its text lays them.)
-/
import Derived.Test.YtgjgmaadogkjfaaDoorTabs
import Derived.Test.YtgjgmaadogkjfaaDoorRefMt
namespace Go.Proofs.YtgjgmaadogkjfaaDoor
namespace likeTellsProof
open Go.ChangeShapes Go.WideShapes Go.ChangeAt Go.RowKit
open Go.ChangeMaps (open_string shut_string)
set_option linter.unusedVariables false

set_option maxRecDepth 100000 in
set_option maxHeartbeats 2000000 in
theorem core (p s : ByteArray) (ok r : Bool) (e u : Nat) (W : World) (hT : Tb W)
    (c1 : ∀ W1, Tb W1 → Calls Tryd.prog 10 #[.string p, .string s] W1 fun x W' => x = .returned (.tuple #[.bool ok, .int .i64 e]) ∧ Fr W1 W')
    (c2 : ∀ W1, Calls Tryd.prog 11 #[.string p] W1 fun x W' => x = .returned (.int .i64 u) ∧ Fr W1 W')
    (c3 : ∀ W1, u = 0 → s.size ≤ 16 → Calls Tryd.prog 13 #[.string p, .string s] W1 fun x W' => x = .returned (.bool r) ∧ Fr W1 W')
    (fit : (u ≠ 0 ∧ e = u ∧ ok = false) ∨ (u = 0 ∧ 16 < s.size ∧ e = 2 ∧ ok = false) ∨ (u = 0 ∧ s.size ≤ 16 ∧ e = 0 ∧ ok = r)) :
    Calls Tryd.prog 3 #[.string p, .string s] W fun x W' => x = .returned (.bool true) ∧ Fr W W' := by
  have C1 : Hid _ := c1
  have C2 : Hid _ := c2
  clear c1 c2
  rcases fit with ⟨hu, rfl, rfl⟩ | ⟨rfl, h16, rfl, rfl⟩ | ⟨rfl, h16, rfl, rfl⟩
  · clear c3
    have q1 : ((e : Int) == 0) = false := by simp [hu]
    have q2 : ¬ ((e : Int) = 0) := by omega
    go_enter Tryd.func3, Tryd.ntmps3
    go_wp2_with fail
    refine (C1.out W hT).mono ?_
    rintro _ w1 ⟨rfl, f1⟩
    go_wp2_with fail
    refine (C2.out w1).mono ?_
    rintro _ w2 ⟨rfl, f2⟩
    have cb := begun_any w2 ((hT.fr f1).fr f2)
    go_wp2_with fail
    refine cb.mono ?_
    rintro _ w3 ⟨rfl, f3⟩
    clear cb
    go_wp2
    go_ret
    exact ⟨rfl, (f1.trans f2).trans f3⟩
  · clear c3
    have z : (16 : Int) < (s.size : Int) := by omega
    go_enter Tryd.func3, Tryd.ntmps3
    go_wp2_with fail
    refine (C1.out W hT).mono ?_
    rintro _ w1 ⟨rfl, f1⟩
    go_wp2_with fail
    refine (C2.out w1).mono ?_
    rintro _ w2 ⟨rfl, f2⟩
    have cb := begun_any w2 ((hT.fr f1).fr f2)
    go_wp2_with fail
    refine cb.mono ?_
    rintro _ w3 ⟨rfl, f3⟩
    clear cb
    go_wp2
    go_ret
    exact ⟨rfl, (f1.trans f2).trans f3⟩
  · have z : ¬ (16 : Int) < (s.size : Int) := by omega
    have C3 : Hid _ := fun W1 => c3 W1 rfl h16
    clear c3
    go_enter Tryd.func3, Tryd.ntmps3
    go_wp2_with fail
    refine (C1.out W hT).mono ?_
    rintro _ w1 ⟨rfl, f1⟩
    go_wp2_with fail
    refine (C2.out w1).mono ?_
    rintro _ w2 ⟨rfl, f2⟩
    have cb := begun_any w2 ((hT.fr f1).fr f2)
    go_wp2_with fail
    refine cb.mono ?_
    rintro _ w3 ⟨rfl, f3⟩
    clear cb
    go_wp2_with fail
    refine (C3.out w3).mono ?_
    rintro _ w4 ⟨rfl, f4⟩
    have ff := ((f1.trans f2).trans f3).trans f4
    cases ok with
    | true => go_wp2; go_ret; exact ⟨rfl, ff⟩
    | false => go_wp2; go_ret; exact ⟨rfl, ff⟩

theorem walk (a0 a1 : ByteArray) (W : World) (hT : Tb W) (b0 : a0.size ≤ 140737488351232) (b1 : a1.size ≤ 140737488351232) :
    Calls Tryd.prog 3 #[.string a0, .string a1] W fun r W' => r = .returned (.bool true) ∧ Fr W W' := by
  refine core a0 a1 (decide (merr a0 a1 = 0) && mtc a0 a1) (mtc a0 a1) (merr a0 a1) (perr a0) W hT (fun W1 t => match_any a0 a1 W1 (by omega) (by omega) t) (fun W1 => patternCheck_any a0 W1 (by omega)) (fun W1 h h2 => matchOf_any a0 a1 W1 h h2) ?_
  by_cases h : perr a0 = 0
  · by_cases h16 : 16 < a1.size
    · have hme : merr a0 a1 = 2 := by unfold merr; rw [if_neg (by rw [h]; decide), if_pos h16]
      exact Or.inr (Or.inl ⟨h, h16, hme, by rw [hme]; rfl⟩)
    · have hme : merr a0 a1 = 0 := by unfold merr; rw [if_neg (by rw [h]; decide), if_neg h16]
      exact Or.inr (Or.inr ⟨h, by omega, hme, by rw [hme]; rfl⟩)
  · have hme : merr a0 a1 = perr a0 := by unfold merr; rw [if_pos h]
    exact Or.inl ⟨h, hme, by rw [hme]; simp [h]⟩

set_option maxRecDepth 100000 in
theorem lifted (os : Os) (started : os.Started) (H : Type) (enc : TypeId × Value → H) :
    ReturnsInHanded {} Tryd.checked os 3 .any (fun w args => (Rows.likeTellsSpec.pre enc Tryd.prog Tryd.f3 [] false w args ∧ laidMetH Tryd.prog Rows.likeTellsRow.laid w) ∧ sizedMet enc Tryd.prog Tryd.f3 (OpenSpec.ofChange Rows.likeTellsSpec) false w args)
      (Rows.likeTellsSpec.post enc Tryd.prog Tryd.f3 false true false false) := by
  refine returnsInHanded_of_change_and (C := Tryd.checked) (X := fun w _ => laidMetH Tryd.prog Rows.likeTellsRow.laid w) (fun _ _ _ hh h => h.of_heap hh) own started (by kernel_rfl) Tryd.func3
    (ChangeSpec.witness_shaped (enc := enc) (C := Tryd.checked) (os := os) (X := fun w _ => laidMetH Tryd.prog Rows.likeTellsRow.laid w) false (World.laidAll Tryd.prog os Rows.likeTellsRow.laid) #[.string ByteArray.empty, .string ByteArray.empty] 8 (World.laidAll_os _ _ _)
      (World.shaped_of_ZipB (by kernel_rfl) (by kernel_rfl)) (by kernel_rfl) (by kernel_rfl) (by kernel_rfl)
      (by rw [MakeChecks.laidMetH_plain _ _ _ (by kernel_rfl)]; exact laidMet_laidAll _ (by kernel_rfl) (by kernel_rfl))) ?_
  intro W base args ds gs before hval0 hW hcnd hsz0 hL _
  have hT : Tb W := tabs_of_laid hL
  have hval : ∀ (j : Nat) t v, Tryd.f3.params[j]? = some t → args[j]? = some v → Value.okWide Tryd.prog W .any base t v := hval0
  have hsz : (DataW.weightsEach Tryd.prog (Tryd.f3.params.toList ++ Rows.likeTellsSpec.plain.varTypes Tryd.prog) (ds ++ gs)).all (· ≤ reachBytes) = true := hsz0
  have hW' := hW
  obtain ⟨p, q, hA0, hV, rfl, hfz, hnd⟩ := hW
  have hA : DataW.TrodAll enc Tryd.prog W 0 (fun _ => true) true Tryd.f3.params.toList args.toList ds p := hA0
  rw [Tryd.params3] at hA hval hsz
  obtain ⟨v0, vs0, d0, ds0, p0, q0, hargs, rfl, rfl, h0, r0⟩ := trodAll_cons hA
  obtain ⟨v1, vs1, d1, ds1, p1, q1, rfl, rfl, rfl, h1, r1⟩ := trodAll_cons r0
  obtain ⟨rfl, rfl, rfl⟩ := trodAll_nil r1
  obtain rfl : args = #[v0, v1] := by cases args; simp_all
  obtain ⟨rfl, rfl⟩ := trodVars_none hV
  obtain ⟨a0, rfl, rfl, rfl, w0⟩ := open_string Tryd.underlying9 (hval 0 9 v0 rfl rfl) h0
  obtain ⟨a1, rfl, rfl, rfl, w1⟩ := open_string Tryd.underlying9 (hval 1 9 v1 rfl rfl) h1
  have b0 : a0.size ≤ 140737488351232 := by
    have h := sized_string hsz (j := 0) (t := 9) rfl rfl
    simpa [reachBytes] using h
  have b1 : a1.size ≤ 140737488351232 := by
    have h := sized_string hsz (j := 1) (t := 9) rfl rfl
    simpa [reachBytes] using h
  clear hA0 hval0 hsz0
  refine (walk a0 a1 W hT b0 b1).mono fun e W' ⟨he, bel⟩ => ?_
  subst he
  exact ⟨_, rfl, _, _, _, [], _, [], hW', trodAll_mk1 (shut_bool Tryd.underlying4 _), (trodAll_cons_mk (shut_string Tryd.underlying9 w0) (trodAll_cons_mk (shut_string Tryd.underlying9 w1) trodAll_mk0)), rfl, Below.frame bel _, fun h => by cases h⟩

theorem over : Rows.likeTellsRow.holds Tryd.pinned (OpenSpec.ofChange Rows.likeTellsSpec) :=
  OpenClaim.holds_of_wide 3 Tryd.f3 rfl rfl rfl rfl rfl rfl rfl ⟨rfl, rfl, rfl, rfl, rfl⟩ rfl rfl rfl rfl rfl (by kernel_rfl) Tryd.func3 (by kernel_rfl)
    (of_decide_eq_true (by kernel_rfl)) (by unfold Func.isWrapper; first | (rw [if_pos (by decide +kernel)]; kernel_rfl) | (rw [if_neg (by decide +kernel)]; exact ⟨rfl, rfl⟩))
    (fun os started H enc _ => lifted os started H enc)

theorem card : Rows.LikeTellsCardSaid :=
  Claim7.holds_tied_plain_at .later [] [.data, .pinned] true (true, "16a35cc793bfe44f891744ca83cbcb2362c0f7c3e5d28fcb30ada395105c9e56") false
    over (fun _ h => by cases h) (by kernel_rfl) (fun _ h => by cases h) likeTells_row_tie rfl ⟨rfl, rfl⟩ (by kernel_rfl) rfl
    (fun f fn hf hfn => by
      obtain rfl : f = 3 := Option.some.inj ((show Tryd.prog.funcNamed "starling/starlinglaw.LikeTells" = some 3 by kernel_rfl).symm.trans hf) |>.symm
      obtain rfl : fn = Tryd.f3 := (Option.some.inj (Tryd.func3.symm.trans hfn)).symm
      exact ⟨by kernel_rfl, fun j t ht => by
        rw [Tryd.params3] at ht
        have hm : t ∈ [9, 9] := by simpa using Array.mem_of_getElem? ht
        have hall : ([9, 9].all fun u => !Tryd.prog.wantsStandIn u) = true := by kernel_rfl
        exact (show Tryd.prog.wantsStandIn t = false by simpa using List.all_eq_true.1 hall t hm)⟩)
    (by kernel_rfl)

end likeTellsProof
theorem likeTells_holds : Rows.LikeTellsCardSaid := likeTellsProof.card
#print axioms likeTells_holds
end Go.Proofs.YtgjgmaadogkjfaaDoor
